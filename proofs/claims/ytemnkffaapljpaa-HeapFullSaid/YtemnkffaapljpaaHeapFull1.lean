/-
  HeapFull: what its first Try runs: contract (written by gen_full1.py).
-/
import Derived.Test.YtemnkffaapljpaaHeldTill
import Derived.Test.YtemnkffaapljpaaHeapAw1
import Derived.Deep.AppendLies
namespace Go.Proofs.Ytemnkffaapljpaa
open Go.RowKit Go.Maps Go.ChangeMaps Go.WideShapes

/-- the first k sectors are held, by one each, young; so many are to be left -/
def fullS (f : Nat) (K : Int) (k : Nat) : HS := ⟨fun i => if i < k then 1 else 0, fun T => if (f : Int) ≤ T ∧ T < ((f + k : Nat) : Int) then some 1 else none, fun T => if (f : Int) ≤ T ∧ T < ((f + k : Nat) : Int) then some () else none, [], K⟩
theorem fullS_zero (f : Nat) (K : Int) : fullS f K 0 = { HS.new with K := K } := by
  have h : ∀ T : Int, ¬ ((f : Int) ≤ T ∧ T < ((f + 0 : Nat) : Int)) := fun T => by omega
  unfold fullS HS.new
  simp only [if_neg (h _), Nat.not_lt_zero, if_false]
theorem fullS_put (f : Nat) (K : Int) (k : Nat) : (fullS f K k).put k ((f + k : Nat) : Int) = fullS f K (k + 1) := by
  unfold HS.put fullS
  congr 1
  · funext i
    by_cases h : i = k
    · subst h
      simp [upd]
    · have h1 : i < k + 1 ↔ i < k := by omega
      simp only [upd, if_neg h, h1]
  · funext T
    unfold upF
    by_cases h : T = ((f + k : Nat) : Int)
    · rw [if_pos h, if_pos (by omega)]
    · rw [if_neg h]
      dsimp only
      by_cases h2 : (f : Int) ≤ T ∧ T < ((f + k : Nat) : Int)
      · rw [if_pos h2, if_pos (by omega)]
      · rw [if_neg h2, if_neg (by omega)]
  · funext T
    unfold upF
    by_cases h : T = ((f + k : Nat) : Int)
    · rw [if_pos h, if_pos (by omega)]
    · rw [if_neg h]
      dsimp only
      by_cases h2 : (f : Int) ≤ T ∧ T < ((f + k : Nat) : Int)
      · rw [if_pos h2, if_pos (by omega)]
      · rw [if_neg h2, if_neg (by omega)]
theorem cnt_less (k : Nat) : ∀ n, k ≤ n → cnt (fun i => if i < k then 1 else 0) 0 n = n - k ∧ cnt (fun i => if i < k then 1 else 0) 1 n = k
  | 0, h => by
    obtain rfl : k = 0 := by omega
    exact ⟨rfl, rfl⟩
  | n + 1, h => by
    by_cases hk : k = n + 1
    · subst hk
      have e : ∀ m c, m ≤ n + 1 → cnt (fun i => if i < n + 1 then 1 else 0) c m = if c = 1 then m else 0 := by
        intro m
        induction m with
        | zero => intro c _; simp [cnt]
        | succ m ih =>
          intro c hm
          have := ih c (by omega)
          show cnt _ c m + _ = _
          rw [this]
          have h1 : m < n + 1 := by omega
          by_cases hc : c = 1
          · subst hc; simp [h1]
          · have hc' : ¬ 1 = c := fun e => hc e.symm
            simp [h1, hc, hc']
      rw [e (n + 1) 0 (Nat.le_refl _), e (n + 1) 1 (Nat.le_refl _)]
      simp
    · obtain ⟨a, c⟩ := cnt_less k n (by omega)
      have h1 : ¬ n < k := by omega
      constructor
      · show cnt _ 0 n + _ = _
        rw [a]
        simp [h1]
        omega
      · show cnt _ 1 n + _ = _
        rw [c]
        simp [h1]
def rng (f k : Nat) : List Nat := (List.range k).map (f + ·)
theorem rng_len (f k : Nat) : (rng f k).length = k := by simp [rng]
theorem rng_succ (f k : Nat) : intsG (rng f (k + 1)) = intsG (rng f k) ++ [.int .i64 ((f + k : Nat) : Int)] := by simp [rng, intsG, List.range_succ]
theorem infoIntF : (Try.prog.info? 3).map (fun i => (i.zero, i.size, i.bytes)) = some (some (.int .i64 0), 1, 8) := by kernel_rfl
theorem grewGrown {w w' : World} {row : Option Nat} (h : w.grownBy w' row) : Grew (fun k => row = some k) w w' := (Grew.refl w).grown h fun _ _ e => e
/-- HeapFull's boxes, and the sectors that it has put -/
structure Ful (b : HB) (xh xk xn xf xl n0 kp n : Nat) (F : Bool) (E : Nat → Prop) (lv : Value) (k : Nat) (w0 w : World) : Prop where
  bh : Box xh 54 (.pointer (some ⟨b.hb, 0, none⟩)) w
  bk : Box xk 3 (.int .i64 (kp : Int)) w
  bn : Box xn 3 (.int .i64 (n : Int)) w
  bf : Box xf 4 (.bool F) w
  bl : Box xl 51 lv w
  row : w.ownsRow b.B 3 1 lv k (intsG (rng b.f k))
  gr : Grew (fun q => n0 ≤ q) w0 w
  be : ∀ e, E e → w.heap[e]? = some errBox
/-- where they lie -/
structure FulP (b : HB) (xh xk xn xf xl n0 : Nat) : Prop where
  s : ∀ k, k = xh ∨ k = xk ∨ k = xn ∨ k = xf ∨ k = xl → ¬ b.S0 k
  lt : xk < b.B ∧ xn < b.B
  nn : n0 ≤ b.B ∧ n0 ≤ xl
  own : ∀ k, b.S0 k → n0 ≤ k
section
variable {b : HB} {xh xk xn xf xl n0 kp n k : Nat} {F : Bool} {E : Nat → Prop} {lv : Value} {w0 w w' : World}
theorem Ful.drew (h : Ful b xh xk xn xf xl n0 kp n F E lv k w0 w) : Ful b xh xk xn xf xl n0 kp n F E lv k w0 w.drew := ⟨h.bh, h.bk, h.bn, h.bf, h.bl, h.row, h.gr.drew, h.be⟩
theorem Ful.alloc (h : Ful b xh xk xn xf xl n0 kp n F E lv k w0 w) (o : Obj) : Ful b xh xk xn xf xl n0 kp n F E lv k w0 (w.alloc o) := ⟨h.bh.keepAlloc _, h.bk.keepAlloc _, h.bn.keepAlloc _, h.bf.keepAlloc _, h.bl.keepAlloc _, h.row.alloc _, h.gr.alloc _, fun e he => by
  have := h.be e he
  rw [Below.heap_alloc _ _ _ (Array.getElem?_eq_some_iff.1 this).1]
  exact this⟩
/-- what leaves all but the heap's blocks, steps and errors alone -/
theorem Ful.turn {T E' : Nat → Prop} (h : Ful b xh xk xn xf xl n0 kp n F E lv k w0 w) (ok : b.ok) (p : FulP b xh xk xn xf xl n0) (g : Grew T w w') (hT : ∀ q, T q → b.S0 q ∨ Touch w q) (hn : ∀ q, T q → n0 ≤ q) (hE : ∀ e, E' e → E e ∧ ¬ T e) : Ful b xh xk xn xf xl n0 kp n F E' lv k w0 w' := by
  have nt : ∀ {x : Nat} {t : TypeId} {v : Value}, Box x t v w → ¬ b.S0 x → t ≠ 1 → t ≠ 43 → ¬ T x := fun hx hs h1 h2 e => by
    rcases hT _ e with m | ⟨c, t', fz, e1, e2⟩
    · exact hs m
    · unfold Box at hx
      rw [hx] at e1
      simp at e1
      rw [← e1.2.1] at e2
      exact e2.elim h1 h2
  refine ⟨h.bh.keep g (nt h.bh (p.s _ (by simp)) (by decide) (by decide)), h.bk.keep g (nt h.bk (p.s _ (by simp)) (by decide) (by decide)), h.bn.keep g (nt h.bn (p.s _ (by simp)) (by decide) (by decide)), h.bf.keep g (nt h.bf (p.s _ (by simp)) (by decide) (by decide)), h.bl.keep g (nt h.bl (p.s _ (by simp)) (by decide) (by decide)), ownInt_keep h.row g fun q hq m => ?_, h.gr.step g fun q _ m => hn q m, fun e he => ?_⟩
  · obtain ⟨c2, fz2, e2⟩ := Lib.ownsRow_kind h.row q hq
    rcases hT _ m with ⟨i, hi, rfl⟩ | ⟨c, t', fz, e1, e3⟩
    · have a1 := (h.row.lt _ hq).1
      have a2 := ok.lt i hi
      omega
    · rw [e2] at e1
      simp at e1
      rw [← e1.2.1] at e3
      exact e3.elim (by decide) (by decide)
  · obtain ⟨h1, h2⟩ := hE e he
    have h3 := h.be e h1
    exact (g.block e (Array.getElem?_eq_some_iff.1 h3).1 h2).trans h3
theorem Ful.mut (h : Ful b xh xk xn xf xl n0 kp n F E lv k w0 w) (ok : b.ok) (p : FulP b xh xk xn xf xl n0) (hEs : ∀ e, E e → ¬ b.S0 e) (g : Grew (Mut b.B b.S0 w) w w') : Ful b xh xk xn xf xl n0 kp n F E lv k w0 w' :=
  h.turn ok p g (fun q m => m.elim Or.inl fun ⟨_, c, fz, e⟩ => Or.inr ⟨c, _, fz, e, Or.inl rfl⟩) (fun q m => by
    rcases m with m | m
    · exact p.own q m
    · exact Nat.le_trans p.nn.1 m.1) fun e he => ⟨he, fun m => by
      rcases m with m | m
      · exact hEs e he m
      · exact notFunc_err (h.be e he) m⟩
/-- what an append to the list and its store leave -/
theorem Ful.more (h : Ful b xh xk xn xf xl n0 kp n F E lv k w0 w) (ok : b.ok) (p : FulP b xh xk xn xf xl n0) {m : Nat} {s : HS} (hG : s.G = []) {f0 : List Step} (hi : InL b s 1 f0 m w) {r cap : Nat} (ho : w'.ownsRow b.B 3 1 (.slice (some ⟨r, 0, none⟩) (k + 1) cap) (k + 1) (intsG (rng b.f k) ++ [.int .i64 ((b.f + k : Nat) : Int)])) (hg : w.grownBy w' lv.ownBlock) :
    Box xh 54 (.pointer (some ⟨b.hb, 0, none⟩)) w' ∧ Box xl 51 lv w' ∧ InL b s 1 f0 m (w'.setCell ⟨xl, 0, none⟩ (.slice (some ⟨r, 0, none⟩) (k + 1) cap)) ∧ Ful b xh xk xn xf xl n0 kp n F E (.slice (some ⟨r, 0, none⟩) (k + 1) cap) (k + 1) w0 (w'.setCell ⟨xl, 0, none⟩ (.slice (some ⟨r, 0, none⟩) (k + 1) cap)) := by
  have g : Grew (fun q => lv.ownBlock = some q) w w' := grewGrown hg
  have nb : ∀ {x : Nat} {t : TypeId} {v : Value}, Box x t v w → t ≠ 3 → ¬ lv.ownBlock = some x := fun hx ht e => by
    obtain ⟨c, fz, e2⟩ := Lib.ownsRow_kind h.row _ e
    unfold Box at hx
    rw [hx] at e2
    simp at e2
    exact ht e2.2.1
  have nlow : ∀ {x : Nat}, x < b.B → ¬ lv.ownBlock = some x := fun hx e => by
    have := (h.row.lt _ e).1
    omega
  have bl := h.bl.keep g (nb h.bl (by decide))
  have i1 := hi.keep hG g (fun x hx e => by
    obtain ⟨j, hj, rfl⟩ := hx
    have := ok.lt j hj
    exact nlow this e) fun q c fz hq e => by
      obtain ⟨c2, fz2, e2⟩ := Lib.ownsRow_kind h.row _ e
      rw [hq] at e2
      simp at e2
  have nx : xk ≠ xl := fun e => by
    have h1 := h.bk
    rw [e] at h1
    unfold Box at h1
    have h2 := h.bl
    unfold Box at h2
    rw [h1] at h2
    simp at h2
  have nx2 : xn ≠ xl := fun e => by
    have h1 := h.bn
    rw [e] at h1
    unfold Box at h1
    have h2 := h.bl
    unfold Box at h2
    rw [h1] at h2
    simp at h2
  have nx3 : xh ≠ xl := fun e => by
    have h1 := h.bh
    rw [e] at h1
    unfold Box at h1
    have h2 := h.bl
    unfold Box at h2
    rw [h1] at h2
    simp at h2
  have nx4 : xf ≠ xl := fun e => by
    have h1 := h.bf
    rw [e] at h1
    unfold Box at h1
    have h2 := h.bl
    unfold Box at h2
    rw [h1] at h2
    simp at h2
  have bh := h.bh.keep g (nb h.bh (by decide))
  refine ⟨bh, bl, i1.box hG bl (by decide) (p.s _ (by simp)), bh.keepSet _ _ _ nx3, (h.bk.keep g (nlow p.lt.1)).keepSet _ _ _ nx, (h.bn.keep g (nlow p.lt.2)).keepSet _ _ _ nx2, (h.bf.keep g (nb h.bf (by decide))).keepSet _ _ _ nx4, bl.set _, ?_, ?_, ?_⟩
  · rw [rng_succ]
    refine ownInt_keep (S := fun q => q = xl) ho ((Grew.refl w').setCell _ _ fun _ => rfl) fun q hq e => ?_
    obtain ⟨c2, fz2, e2⟩ := Lib.ownsRow_kind ho _ hq
    subst e
    unfold Box at bl
    rw [bl] at e2
    simp at e2
  · refine (h.gr.step g fun q hq e => ?_).setCell _ _ fun _ => p.nn.2
    exact Nat.le_trans p.nn.1 (h.row.lt _ e).1
  · intro e he
    have h3 := h.be e he
    have ne : e ≠ xl := fun e1 => by
      have h4 := h.bl
      unfold Box at h4
      rw [← e1, h3] at h4
      simp [errBox] at h4
    rw [Below.heap_setCell _ _ _ _ ne, g.block e (Array.getElem?_eq_some_iff.1 h3).1 fun e1 => ?_]
    · exact h3
    · obtain ⟨c, fz, e2⟩ := Lib.ownsRow_kind h.row _ e1
      rw [h3] at e2
      simp [errBox] at e2
end
/-- Keep in a Try -/
theorem lKeep {b : HB} (ok : b.ok) {s : HS} {dp n : Nat} {f0 : List Step} {w : World} (kp : Nat) (hkp : kp < 1000) (hn : n < 80000) (h : InL b s (dp + 1) f0 n w) : Calls Try.prog 38 #[.pointer (some ⟨b.hb, 0, none⟩), .int .i64 (kp : Int)] w fun e w' => e = .returned (.tuple #[]) ∧ InL b { s with K := (kp : Int) } (dp + 1) f0 (n + 1) w' ∧ Grew (Mut b.B b.S0 w) w w' := by
  obtain ⟨⟨v, fs, n1, l⟩, i⟩ := h
  refine (keep1_any b ok s kp hkp dp v (f0 ++ fs) w (by omega) i l).mono ?_
  rintro e w' ⟨rfl, hd⟩
  exact ⟨rfl, InL.of n1 hd, hd.grew⟩
set_option maxRecDepth 100000 in
set_option maxHeartbeats 2000000 in
theorem full1_any (b : HB) (ok : b.ok) (n kp : Nat) (hbn : b.n = n) (hn : n < 40) (hkp : kp < 40) (xh xk xn xf xl n0 : Nat) (F : Bool) (E : Nat → Prop) (hEs : ∀ e, E e → ¬ b.S0 e) (lv0 : Value) (p : FulP b xh xk xn xf xl n0) (w0 w : World) (h : InL b HS.new 1 [] 0 w) (hA : Ful b xh xk xn xf xl n0 kp n F E lv0 0 w0 w) :
    Calls Try.prog 37 #[.pointer (some ⟨xh, 0, none⟩), .pointer (some ⟨xk, 0, none⟩), .pointer (some ⟨xn, 0, none⟩), .pointer (some ⟨xl, 0, none⟩)] w fun e w' => e = .returned (.tuple #[]) ∧ (∃ q, InL b (fullS b.f kp (n - kp)) 1 [] q w') ∧ ∃ lv, Ful b xh xk xn xf xl n0 kp n F E lv (n - kp) w0 w' := by
  obtain ⟨i0, hi, hz0, hz1, hz2⟩ := info_parts' infoIntF
  have HI0 := Lib.hid hi
  have HI1 := Lib.hid hz0
  have HI2 := Lib.hid hz1
  have HI3 := Lib.hid hz2
  clear hi hz0 hz1 hz2
  obtain ⟨m, hm⟩ : ∃ m, n - kp = m := ⟨_, rfl⟩
  have hmx : ∀ (ts : Array TypeId) (t : TypeId) (wx : World), (Builtin.max_ ts t #[.int .i64 0, .int .i64 ((n : Int) - (kp : Int))]).run Try.prog wx = .ok (.int .i64 (m : Int)) wx := fun ts t wx => run_max2 _ wx ts t _ _ _ (by omega)
  have HKp := Lib.hid (lKeep ok kp (by omega) (by decide) h)
  have HA := Lib.hid hA
  have d1 := hA.bh.cell
  have d2 := hA.bk.cell
  have HM := Lib.hid (And.intro hm (And.intro hbn (And.intro hn hkp)))
  rw [hm]
  clear h hA hbn hm
  go_enter Try.func37, Try.ntmps37
  go_wp2_with fail
  refine HKp.out.mono ?_
  rintro e w1 ⟨rfl, hi1, hg1⟩
  rw [show ({ HS.new with K := (kp : Int) } : HS) = fullS b.f kp 0 from (fullS_zero b.f kp).symm] at hi1
  have A1 := HA.out.mut ok p hEs hg1
  have c1 := A1.bk.cell
  have c2 := A1.bn.cell
  have HI := Lib.hid hi1
  have HA1 := Lib.hid A1
  clear hi1 hg1 A1 d1 d2 HKp HA
  go_wp2_with fail
  clear c1 c2 hmx
  go_loopw [11] (fun i wx => ∃ (k : Nat) (lv : Value), k ≤ m ∧ i = .int .i64 (k : Int) ∧ InL b (fullS b.f kp k) 1 [] (1 + 3 * k) wx ∧ Ful b xh xk xn xf xl n0 kp n F E lv k w0 wx) (fun i _ => m - (intOf i).toNat)
  case atStart => exact ⟨0, lv0, Nat.zero_le _, rfl, HI.out, HA1.out⟩
  case round =>
    obtain ⟨k, lv, hk, rfl, hik, hfk⟩ := hrel
    clear HI HA1
    have HIk := Lib.hid hik
    have HFk := Lib.hid hfk
    clear hik hfk
    by_cases hlt : k < m
    · have j0 : (k : Int) < (m : Int) := by omega
      obtain ⟨T, hT⟩ : ∃ T : Int, ((b.f + k : Nat) : Int) = T := ⟨_, rfl⟩
      have HPu : Hid (Calls Try.prog 39 #[.pointer (some ⟨b.hb, 0, none⟩), .string ⟨#[120]⟩] wr.drew fun e w' => e = .returned (.int .i64 T) ∧ (InL b (fullS b.f kp (k + 1)) 1 [] (1 + 3 * (k + 1)) w' ∧ Ful b xh xk xn xf xl n0 kp n F E lv k w0 w')) := Lib.hid (by
        obtain ⟨q1, q2, q3, q4⟩ := HM.out
        have hc := (cnt_less k b.n (by omega)).1
        have i1 := HIk.out.drew
        refine (lPut ok ⟨#[120]⟩ (by decide) (by show (0 : Int) ≤ (kp : Int); omega) (by show (kp : Int) < ((cnt (fun i => if i < k then 1 else 0) 0 b.n : Nat) : Int); rw [hc]; omega) (by omega) i1).mono ?_
        rintro e w' ⟨j, hj, hs0, hmin, rfl, hi, hg⟩
        have hjk : j = k := by
          have h1 : ¬ j < k := fun hh => by
            have : (if j < k then 1 else 0) = 0 := hs0
            rw [if_pos hh] at this
            cases this
          have h2 : ¬ k < j := fun hh => hmin k hh (if_neg (Nat.lt_irrefl k))
          omega
        subst hjk
        rw [fullS_put] at hi
        rw [hT]
        exact ⟨rfl, by rw [show 1 + 3 * (j + 1) = 1 + 3 * j + 3 by omega]; exact hi, HFk.out.drew.mut ok p hEs hg⟩)
      have HGo : Hid (∀ w2, (InL b (fullS b.f kp (k + 1)) 1 [] (1 + 3 * (k + 1)) w2 ∧ Ful b xh xk xn xf xl n0 kp n F E lv k w0 w2) →
          (w2.cell? ⟨xh, 0, none⟩ = some (.pointer (some ⟨b.hb, 0, none⟩)) ∧ w2.cell? ⟨xl, 0, none⟩ = some lv) ∧ ((w2.alloc (.cells #[.int .i64 T] 3)).cell? ⟨xh, 0, none⟩ = some (.pointer (some ⟨b.hb, 0, none⟩)) ∧ (w2.alloc (.cells #[.int .i64 T] 3)).cell? ⟨xl, 0, none⟩ = some lv) ∧
          (w2.alloc (.cells #[.int .i64 T] 3)).ownsRow b.B 3 1 lv k (intsG (rng b.f k)) ∧ b.B ≤ (w2.alloc (.cells #[.int .i64 T] 3)).heap.size ∧
          ∀ r cap w3, w3.ownsRow b.B 3 1 (.slice (some ⟨r, 0, none⟩) (k + 1) cap) (k + 1) (intsG (rng b.f k) ++ [.int .i64 T]) → (w2.alloc (.cells #[.int .i64 T] 3)).grownBy w3 lv.ownBlock →
            (w3.cell? ⟨xh, 0, none⟩ = some (.pointer (some ⟨b.hb, 0, none⟩)) ∧ w3.cell? ⟨xl, 0, none⟩ = some lv) ∧ w3.cell? ⟨xl, 0, none⟩ = some lv ∧ w3.frozen? ⟨xl, 0, none⟩ = false ∧ (InL b (fullS b.f kp (k + 1)) 1 [] (1 + 3 * (k + 1)) (w3.setCell ⟨xl, 0, none⟩ (.slice (some ⟨r, 0, none⟩) (k + 1) cap)) ∧ Ful b xh xk xn xf xl n0 kp n F E (.slice (some ⟨r, 0, none⟩) (k + 1) cap) (k + 1) w0 (w3.setCell ⟨xl, 0, none⟩ (.slice (some ⟨r, 0, none⟩) (k + 1) cap)))) := Lib.hid fun w2 ⟨hi2, hf2⟩ => by
        have hf3 := hf2.alloc (.cells #[.int .i64 T] 3)
        have hi3 := hi2.alloc rfl (.cells #[.int .i64 T] 3)
        refine ⟨⟨hf2.bh.cell, hf2.bl.cell⟩, ⟨hf3.bh.cell, hf3.bl.cell⟩, hf3.row, hi3.size, fun r cap w3 ho hg => ?_⟩
        rw [← hT] at ho hg
        rw [← hT] at hf3 hi3
        obtain ⟨m1, m2, m3, m4⟩ := hf3.more ok p (s := fullS b.f kp (k + 1)) rfl hi3 ho hg
        exact ⟨⟨m1.cell, m2.cell⟩, m2.cell, m2.free, m3, m4⟩
      have HH0 : Hid (wr.drew.cell? ⟨xh, 0, none⟩ = some (.pointer (some ⟨b.hb, 0, none⟩)) ∧ wr.drew.cell? ⟨xl, 0, none⟩ = some lv) := Lib.hid ⟨HFk.out.bh.cell, HFk.out.bl.cell⟩
      have HLt := Lib.hid hlt
      have hkm : k < 1000 := by have := HM.out; omega
      clear hT hlt hk HIk HFk
      go_upto_region 3 with fail
      have hHeld := HH0.out
      refine HeldTill.start (S := fun wx => wx.cell? ⟨xh, 0, none⟩ = some (.pointer (some ⟨b.hb, 0, none⟩)) ∧ wx.cell? ⟨xl, 0, none⟩ = some lv) (s := 5) (by kernel_rfl) ?_
      refine HeldTill.take (i := 0) (oi := { dst := some 13, op := Op.load 51 (Operand.tmp 3), type := 51, pos := "law.go:265", after := #[], guard := none }) (v := ?_) rfl (by kernel_rfl) (by kernel_rfl) (by kernel_rfl) [4, 5] (by kernel_rfl) (by kernel_rfl) (by kernel_rfl) (fun _ _ _ h => h) (Or.inl ⟨by rfl, ?_⟩) hHeld ?_
      rotate_left
      · (intro wz hSw; (try dsimp only at hSw); go_simp; try with_reducible rfl)
      try simp only [Act.put, List.setIfInBounds_toArray, List.set_cons_zero, List.set_cons_succ]
      refine HeldTill.take (i := 1) (oi := { dst := some 14, op := Op.load 54 (Operand.tmp 0), type := 54, pos := "law.go:265", after := #[], guard := none }) (v := ?_) rfl (by kernel_rfl) (by kernel_rfl) (by kernel_rfl) [2, 3, 4, 5] (by kernel_rfl) (by kernel_rfl) (by kernel_rfl) (fun _ _ _ h => h) (Or.inl ⟨by rfl, ?_⟩) hHeld ?_
      rotate_left
      · (intro wz hSw; (try dsimp only at hSw); go_simp; try with_reducible rfl)
      try simp only [Act.put, List.setIfInBounds_toArray, List.set_cons_zero, List.set_cons_succ]
      refine HeldTill.next (i := 2) (o := { dst := some 15, op := Op.call { callee := Callee.value (Operand.func 39), args := #[Operand.tmp 14, Operand.const (Value.string { data := #[120] })], argTypes := #[54, 9] }, type := 3, pos := "law.go:265", after := #[{ on := 1, ground := Ground.data }], guard := none }) (by kernel_rfl) rfl (fun K hK => ?_)
      go_simp
      refine HPu.out.mono ?_
      rintro e w2 ⟨rfl, hq2⟩
      obtain ⟨hh2, hh3, hown2, hsz2, hN⟩ := HGo.out w2 hq2
      have HNx := Lib.hid hN
      clear hq2 hN hHeld
      try go_wp2_with fail
      refine hK.out _ _ (fun _ => hh2) ?_
      clear hK K
      try simp only [Act.put, List.setIfInBounds_toArray, List.set_cons_zero, List.set_cons_succ]
      refine HeldTill.next (i := 3) (o := { dst := some 16, op := Op.buildSlice 51 1 #[(0, Operand.tmp 15)], type := 51, pos := "law.go:265", after := #[{ on := 2, ground := Ground.data }], guard := none }) (by kernel_rfl) rfl (fun K hK => ?_)
      go_simp
      refine hK.out _ _ (fun _ => hh3) ?_
      clear hK K
      try simp only [Act.put, List.setIfInBounds_toArray, List.set_cons_zero, List.set_cons_succ]
      refine HeldTill.next (i := 4) (o := { dst := some 17, op := Op.call { callee := Callee.builtin Builtin.append, args := #[Operand.tmp 13, Operand.tmp 16], argTypes := #[51, 51] }, type := 51, pos := "law.go:265", after := #[{ on := 0, ground := Ground.data }, { on := 3, ground := Ground.data }, { on := 2, ground := Ground.chain }], guard := none }) (by kernel_rfl) rfl (fun K hK => ?_)
      refine step_append_lies _ rfl (.tmp 13) (.tmp 16) 51 rfl b.B 3 i0 (.int .i64 0) 1 8 Try.underlying51 HI0.out HI1.out HI2.out HI3.out rfl (by decide) lv k (intsG (rng b.f k)) rfl hown2 ⟨w2.heap.size, 0, none⟩ 1 1 [.int .i64 T] rfl rfl ?_ ?_ (by decide) (by unfold maxLen; omega) (by omega) hsz2 _ rfl ?_
      · intro j z hz
        match j, hz with
        | 0, hz => (simp at hz; subst hz; rw [Addr.add_lit]; exact boxNew rfl)
      · (intro z hz; simp at hz; subst hz; rfl)
      intro r cap w3 hown3 hgr3 hr3 hrl3
      obtain ⟨hs3, k1, k2, hE⟩ := HNx.out r cap w3 hown3 hgr3
      have HE := Lib.hid hE
      clear hown3 hgr3 hr3 hrl3 hE hown2 hsz2 hh2 hh3
      refine hK.out _ _ (fun _ => hs3) ?_
      clear hK K
      try simp only [Act.put, List.setIfInBounds_toArray, List.set_cons_zero, List.set_cons_succ]
      refine HeldTill.next (i := 5) (o := { dst := none, op := Op.store 51 (Operand.tmp 3) (Operand.tmp 17), type := 0, pos := "law.go:265", after := #[{ on := 4, ground := Ground.data }, { on := 4, ground := Ground.chain }, { on := 0, ground := Ground.phase }, { on := 1, ground := Ground.phase }, { on := 2, ground := Ground.phase }, { on := 3, ground := Ground.phase }, { on := 4, ground := Ground.phase }], guard := none }) (by kernel_rfl) rfl (fun K hK => ?_)
      go_simp
      refine hK.out _ _ (fun h => absurd h (by decide)) ?_
      clear hK K
      try simp only [Act.put, List.setIfInBounds_toArray, List.set_cons_zero, List.set_cons_succ]
      refine HeldTill.done (by kernel_rfl) ?_ _
      go_wp2_with fail
      go_roundw
      case rel => exact ⟨k + 1, _, by have := HLt.out; omega, by go_num, HE.out.1, HE.out.2⟩
      case measure => simp [intOf]; have := HLt.out; omega
    · have j0 : ¬ (k : Int) < (m : Int) := by omega
      obtain rfl : k = m := by omega
      clear hlt hk
      go_wp2_with fail
      go_end0
      exact ⟨rfl, ⟨_, HIk.out⟩, lv, HFk.out⟩
end Go.Proofs.Ytemnkffaapljpaa
