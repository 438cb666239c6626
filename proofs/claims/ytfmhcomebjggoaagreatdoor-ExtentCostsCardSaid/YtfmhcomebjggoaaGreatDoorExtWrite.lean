/-
  extent.Store.write within a Try of a heap: contract.
-/
import Derived.Test.YtfmhcomebjggoaaGreatDoorExtWrite1
namespace Go.Proofs.YtfmhcomebjggoaaGreatDoor
open Go.RowKit Go.Maps Go.ChangeMaps Go.WideShapes

section
variable {b : HB} {s : HS} {dp n : Nat} {f0 : List Step} {w w' : World}
/-- write's four boxes, made -/
structure EwAt (b : HB) (s : HS) (dp : Nat) (f0 : List Step) (n xs kb : Nat) (bits : Int) (x : Nat) (D : ByteArray) (f : Nat → Nat) (w W : World) : Prop where
  inl : InL b s dp f0 n W
  fr : Fr b (x + 1) x xs kb bits D W
  bS : W.heap[x + 1 + 1]? = some (.cells (arr f).toArray 64 (0, 0))
  ba : Box (x + 1 + 1 + 1) 3 (.int .i64 0) W
  sz : W.heap.size = x + 4
  hx : w.heap.size = x
  g : Grew (fun _ => False) w W
theorem ewAt {xs kb : Nat} {bits : Int} (ok : b.ok) (hG : s.G = []) (hsz : b.B ≤ w.heap.size) (D : ByteArray) (f : Nat → Nat) (h : InL b s dp f0 n w) (hst : StAt b xs kb bits w) (nx : ¬ b.S0 xs) : EwAt b s dp f0 n xs kb bits w.heap.size D f w ((((w.alloc (.cells #[.pointer (some ⟨xs, 0, none⟩)] 29)).alloc (.cells #[.string D] 9)).alloc (.cells (arr f).toArray 64)).alloc (.cells #[.int .i64 0] 3)) := by
  have s1 : (w.alloc (.cells #[.pointer (some ⟨xs, 0, none⟩)] 29)).heap.size = w.heap.size + 1 := by simp
  have s2 : ((w.alloc (.cells #[.pointer (some ⟨xs, 0, none⟩)] 29)).alloc (.cells #[.string D] 9)).heap.size = w.heap.size + 1 + 1 := by simp
  have s3 : (((w.alloc (.cells #[.pointer (some ⟨xs, 0, none⟩)] 29)).alloc (.cells #[.string D] 9)).alloc (.cells (arr f).toArray 64)).heap.size = w.heap.size + 1 + 1 + 1 := by simp
  have x1 := Box.new w 29 (.pointer (some ⟨xs, 0, none⟩))
  have x2 := Box.new (w.alloc (.cells #[.pointer (some ⟨xs, 0, none⟩)] 29)) 9 (.string D)
  have x4 := Box.new (((w.alloc (.cells #[.pointer (some ⟨xs, 0, none⟩)] 29)).alloc (.cells #[.string D] 9)).alloc (.cells (arr f).toArray 64)) 3 (.int .i64 0)
  have x3 := heap_alloc_new ((w.alloc (.cells #[.pointer (some ⟨xs, 0, none⟩)] 29)).alloc (.cells #[.string D] 9)) (.cells (arr f).toArray 64)
  rw [s1] at x2
  rw [s2] at x3
  rw [s3] at x4
  have gw : Grew (fun _ => False) w ((((w.alloc (.cells #[.pointer (some ⟨xs, 0, none⟩)] 29)).alloc (.cells #[.string D] 9)).alloc (.cells (arr f).toArray 64)).alloc (.cells #[.int .i64 0] 3)) := ((((Grew.refl w).alloc _).alloc _).alloc _).alloc _
  refine ⟨(((h.alloc hG _).alloc hG _).alloc hG _).alloc hG _, ⟨((x2.keepAlloc _).keepAlloc _), (((x1.keepAlloc _).keepAlloc _).keepAlloc _), (gw.block xs (hst.pl nx).lt (fun e => e)).trans hst, HB.far ok (by omega), HB.far ok (by omega), nx⟩, ?_, x4, by simp, rfl, gw⟩
  exact (((Grew.refl _).alloc _).block (S := fun _ => False) _ (by rw [World.size_alloc, s2]; omega) (fun e => e)).trans x3
theorem EwAt.set0 {xs kb : Nat} {bits : Int} {x : Nat} {D : ByteArray} {f : Nat → Nat} {W : World} (ok : b.ok) (hG : s.G = []) (hsz : b.B ≤ w.heap.size) (hxs : xs < w.heap.size) (h : EwAt b s dp f0 n xs kb bits x D f w W) : EwAt b s dp f0 n xs kb bits x D f w (W.setCell ⟨x + 1 + 1 + 1, 0, none⟩ (.int .i64 0)) := by
  have hx := h.hx
  have g : Grew (fun q => q = x + 1 + 1 + 1) W (W.setCell ⟨x + 1 + 1 + 1, 0, none⟩ (.int .i64 0)) := (Grew.refl W).setCell _ _ fun _ => rfl
  exact ⟨h.inl.box hG h.ba (by decide) (HB.far ok (by omega)), h.fr.keep g (fun q hq => by omega), (g.block _ (by rw [h.sz]; omega) (by omega)).trans h.bS, h.ba.set _, by rw [World.size_setCell]; exact h.sz, hx, h.g.setCell _ _ fun e => by
    have e : x + 1 + 1 + 1 < w.heap.size := e
    omega⟩
/-- what write's Try leaves -/
structure EwEnd (b : HB) (s : HS) (dp : Nat) (f0 : List Step) (n : Nat) (D : ByteArray) (f : Nat → Nat) (xa : Nat) (w : World) (v : Nat) (w' : World) : Prop where
  wr : WrEnd b s dp f0 n D f v w'
  ba : Box xa 3 (.int .i64 (v : Int)) w'
  g : Grew (Mut b.B b.S0 w) w w'
set_option maxRecDepth 100000 in
theorem ewTry (ok : b.ok) (hf : 1 ≤ b.f) (hG : s.G = []) (hK0 : 0 ≤ s.K) (hK : s.K + 5 ≤ (cnt s.S 0 b.n : Nat)) (hn : n < 70000) (hdp : 0 < dp) (hd : dp + 1 < 100000) (xs kb : Nat) (bits : Int) (D : ByteArray) (hD : D.size = 256) (f : Nat → Nat) (hf256 : ∀ j, f j < 256) (x : Nat) {W : World} (h : EwAt b s dp f0 n xs kb bits x D f w W) (hsz : b.B ≤ w.heap.size) (hxs : xs < w.heap.size) :
    Calls Tryz.prog 12 #[.pointer (some ⟨b.hb, 0, none⟩), .func (.func 66) #[] #[.pointer (some ⟨x + 1 + 1, 0, none⟩), .pointer (some ⟨x + 1, 0, none⟩), .pointer (some ⟨x, 0, none⟩), .pointer (some ⟨x + 1 + 1 + 1, 0, none⟩)]] W fun e w' => e = .returned (.int .i64 0) ∧ ∃ v, EwEnd b s dp f0 n D f (x + 1 + 1 + 1) w v w' := by
  have hx := h.hx
  have hWs := h.sz
  have f3 : ¬ b.S0 (x + 1 + 1 + 1) := HB.far ok (by omega)
  have f2 : ¬ b.S0 (x + 1 + 1) := HB.far ok (by omega)
  have f4 : ¬ b.S0 W.heap.size := HB.far ok (by omega)
  have gT := tryWorld_grew b.g dp W
  have hgS : b.S0 b.g := ⟨1, by decide, rfl⟩
  refine (lTry ok hdp (by omega) h.inl _ _ (fun s1 n1 U w1 => ∃ a J s2 U2 j, Wr b s D 4 a J s2 U2 ∧ j < b.n ∧ s2.S j = 0 ∧ (∀ i, i < j → ¬ s2.S i = 0) ∧ s1 = s2.put j ((b.f + j : Nat) : Int) ∧ n1 = n + 3 * J.length + 3 ∧ U = wroteT U2 (b.f + j) (sealS (headT a (smOf D) f)) ∧ Box (x + 1 + 1 + 1) 3 (.int .i64 ((b.f + j : Nat) : Int)) w1 ∧ Grew (Mut b.B b.S0 w) w w1) (fun _ => by rfl) ?_).mono ?_
  · intro f1' hin
    refine (write1_any b ok hf s hG hK0 hK dp n hn hd f1' (x + 1 + 1) (x + 1) x xs kb bits (x + 1 + 1 + 1) D hD f hf256 _ hin (h.fr.keep gT fun q hq e => ?_) (h.ba.keep gT fun e => f3 (e ▸ hgS)) ((gT.block (x + 1 + 1) (by omega) fun (e : x + 1 + 1 = b.g) => f2 (e ▸ hgS)).trans h.bS) f3).mono ?_
    · rcases hq with rfl | rfl | rfl
      · exact h.fr.nd (e ▸ hgS)
      · exact h.fr.ns (e ▸ hgS)
      · exact h.fr.nx (e ▸ hgS)
    · rintro e w1 ⟨rfl, v, ⟨a, J, s1, U, j, h1, rfl, h3, h4, h5, h6⟩, hb, hg⟩
      refine ⟨_, _, _, rfl, h6, h1.same.2.1.trans hG, ?_, a, J, s1, U, j, h1, h3, h4, h5, rfl, rfl, rfl, hb, ?_⟩
      · rw [hg.block _ (by rw [tryWorld_size]; omega) ?_]
        · exact tryWorld_box b.g dp W
        · rintro (m | m)
          · rcases m with m | m
            · exact f4 m
            · exact notFunc_err (tryWorld_box b.g dp W) m
          · omega
      · have g1 : Grew (Mut b.B b.S0 w) w (tryWorld b.g dp W) := (h.g.mono fun _ _ e => e.elim).step gT fun y _ e => Or.inl (e ▸ hgS)
        exact g1.step hg fun y hy m => by
          rcases m with m | m
          · exact Mut.back g1 hy m
          · omega
  · rintro e w' ⟨s1, n1, U, w1, rfl, ⟨a, J, s2, U2, j, h1, h3, h4, h5, rfl, rfl, rfl, hb, hg⟩, hin, g2, _⟩
    refine ⟨rfl, b.f + j, ⟨a, J, s2, U2, j, h1, rfl, h3, h4, h5, hin⟩, hb.keep g2 ?_, hg.step g2 fun y hy e => ?_⟩
    · rintro (e | e)
      · exact f3 (e ▸ hgS)
      · omega
    · rcases e with e | e
      · exact Or.inl (e ▸ hgS)
      · omega
set_option maxRecDepth 100000 in
theorem write_any (ok : b.ok) (hf : 1 ≤ b.f) (hG : s.G = []) (hK0 : 0 ≤ s.K) (hK : s.K + 5 ≤ (cnt s.S 0 b.n : Nat)) (hn : n < 70000) (hdp : 0 < dp) (hd : dp + 1 < 100000) (xs kb : Nat) (bits : Int) (D : ByteArray) (hD : D.size = 256) (f : Nat → Nat) (hf256 : ∀ j, f j < 256) (h : InL b s dp f0 n w) (hst : StAt b xs kb bits w) (nx : ¬ b.S0 xs) :
    Calls Tryz.prog 40 #[.pointer (some ⟨xs, 0, none⟩), .string D, .agg (arr f).toArray] w fun e w' => ∃ v : Nat, e = .returned (.int .i64 (v : Int)) ∧ WrEnd b s dp f0 n D f v w' ∧ Grew (Mut b.B b.S0 w) w w' := by
  have hmf : ∀ (fn : Fn) (first cap : Array Value) (w : World), (Instr.makeFunc fn first cap).run Tryz.prog w = .ok (.func fn first cap) w := fun _ _ _ _ => rfl
  have hsz := h.size
  have hxs := (hst.pl nx).lt
  have HA := ewAt ok hG hsz D f h hst nx
  obtain ⟨W, hW⟩ : ∃ W, ((((w.alloc (.cells #[.pointer (some ⟨xs, 0, none⟩)] 29)).alloc (.cells #[.string D] 9)).alloc (.cells (arr f).toArray 64)).alloc (.cells #[.int .i64 0] 3)) = W := ⟨_, rfl⟩
  rw [hW] at HA
  have q1 := HA.ba.cell
  have q2 := HA.ba.free
  have c0 := HA.fr.bs.cell
  replace HA := HA.set0 ok hG hsz hxs
  obtain ⟨V, hV⟩ : ∃ V, W.setCell ⟨w.heap.size + 1 + 1 + 1, 0, none⟩ (.int .i64 0) = V := ⟨_, rfl⟩
  rw [hV] at HA
  have c1 := HA.fr.bs.cell
  have c2 := HA.fr.sx.cell.1
  have HT := Lib.hid (whole_ok _ _ _ (ewTry ok hf hG hK0 hK hn hdp hd xs kb bits D hD f hf256 w.heap.size HA hsz hxs))
  obtain ⟨X, hX⟩ : ∃ X, (arr f).toArray = X := ⟨_, rfl⟩
  rw [hX] at hW ⊢
  clear h HA hsz hst hX
  go_enter Tryz.func40, Tryz.ntmps40
  go_wp2_with fail
  refine HT.out.mono ?_
  rintro e w1 ⟨rfl, v, hE⟩
  have c5 := hE.ba.cell
  have HE := Lib.hid hE
  clear hE HT
  go_wp2_with fail
  go_ret
  exact ⟨v, rfl, HE.out.wr, HE.out.g⟩
end
end Go.Proofs.YtfmhcomebjggoaaGreatDoor
