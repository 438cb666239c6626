/-
  UndoTable: what a Try of it runs: a contract.
-/
import Derived.Test.YtdeohkkpmjgaoaaTabSS
import Derived.Deep.RegionHeld3
import Derived.Deep.DeepCutAuto
namespace Go.Proofs.Ytdeohkkpmjgaoaa
open Go.RowKit Go.Maps Go.ChangeMaps Go.WideShapes

def StrsIn (w : World) (a : Option Addr) (l : Nat) (ss : Nat → ByteArray) : Prop :=
  l = 0 ∨ ∃ b off, a = some ⟨b, off, none⟩ ∧ ∀ i, i < l → w.cell? ⟨b, off + i, none⟩ = some (.string (ss i)) ∧ (ss i).size ≤ maxLen
theorem StrsIn.below {w w' : World} {a : Option Addr} {l : Nat} {ss : Nat → ByteArray} (h : StrsIn w a l ss) (k : Below w.heap.size w w') : StrsIn w' a l ss := by
  rcases h with h | ⟨b, off, rfl, hr⟩
  · exact Or.inl h
  · exact Or.inr ⟨b, off, rfl, fun i hi => ⟨by rw [k.cell (cell_lt (hr i hi).1)]; exact (hr i hi).1, (hr i hi).2⟩⟩
def BoolsAt (w : World) (a : Option Addr) (l : Nat) (bs : Nat → Bool) : Prop :=
  l = 0 ∨ ∃ b off, a = some ⟨b, off, none⟩ ∧ ∀ i, i < l → w.cell? ⟨b, off + i, none⟩ = some (.bool (bs i))
theorem BoolsAt.below {w w' : World} {a : Option Addr} {l : Nat} {bs : Nat → Bool} (h : BoolsAt w a l bs) (k : Below w.heap.size w w') : BoolsAt w' a l bs := by
  rcases h with h | ⟨b, off, rfl, hr⟩
  · exact Or.inl h
  · exact Or.inr ⟨b, off, rfl, fun i hi => by rw [k.cell (cell_lt (hr i hi))]; exact hr i hi⟩
/-- the table's own state: its elements by their keys -/
def tabI (mb g : Nat) (Ls : List ByteArray) (F : ByteArray → Option ByteArray) (w : World) : Prop := Tab (tblSS Try.prog) mb F Ls w ∧ g < w.heap.size
def tabS0 (mb g : Nat) (k : Nat) : Prop := k = g ∨ k = mb
theorem tabLogged (mb g : Nat) (Ls : List ByteArray) (hn : mb ≠ g) : Logged g (tabS0 mb g) (tabI mb g Ls) where
  own := Or.inl rfl
  set := fun s w o x _ h => ⟨h.1.block (Below.heap_setCell _ _ _ _ hn), by simpa [World.setCell] using h.2⟩
  keep := fun s w w' h k => ⟨h.1.keep k fun n => n (Or.inr rfl), Nat.lt_of_lt_of_le h.2 k.size⟩
  lt := fun s w k h e => by
    rcases e with e | e
    · rw [e]; exact h.2
    · rw [e]; exact h.1.lt
theorem tabAcc (mb g : Nat) (Ls : List ByteArray) (hn : mb ≠ g) : Acc g (tabS0 mb g) (tabI mb g Ls) (tblSS Try.prog) mb Ls (fun F => F) (fun _ F => F) where
  tab := fun _ _ h => h.1
  upd := fun _ _ _ _ h hT k => ⟨hT, Nat.lt_of_lt_of_le h.2 k.size⟩
  own := Or.inr rfl
  ne := hn
  back := fun _ _ => rfl
  got := fun _ _ => rfl
theorem tabLog {B mb g dp : Nat} {Ls : List ByteArray} {v : Value} {fs : List Step} {F : ByteArray → Option ByteArray} {w : World} (hn : mb ≠ g) (h : LogAt B g dp v fs w) (hI : tabI mb g Ls F w) : ∀ w', Grew (fun q => q = g ∨ v.ownBlock = some q) w w' → (∀ o, ¬ o = 1 → w'.cell? ⟨g, o, none⟩ = w.cell? ⟨g, o, none⟩) → (∀ o, w'.frozen? ⟨g, o, none⟩ = w.frozen? ⟨g, o, none⟩) → tabI mb g Ls F w' := fun w' hg _ _ =>
  And.intro (hI.1.keep hg fun e => by
    rcases e with e | e
    · exact hn e
    · obtain ⟨c, fz, e1⟩ := Lib.ownsRow_kind h.row _ e
      obtain ⟨D, ⟨es, clock, e2, _⟩, _⟩ := hI.1.own
      rw [e2] at e1
      exact nomatch e1) (Nat.lt_of_lt_of_le hI.2 hg.size)
theorem LogAt.drew {B g dp : Nat} {v : Value} {fs : List Step} {w : World} (h : LogAt B g dp v fs w) : LogAt B g dp v fs w.drew := ⟨h.c0, h.c1, h.f0, h.f1, h.row, h.kind⟩
theorem Did.drew {σ : Type} {B g dp n : Nat} {S0 : Nat → Prop} {I : σ → World → Prop} {fs : List Step} {s s' : σ} {w w' : World} (L : Logged g S0 I) (h : Did B g dp S0 I fs n s s' w w') : Did B g dp S0 I fs n s s' w w'.drew := by
  obtain ⟨⟨v', fs', l, m, p⟩, i, g'⟩ := h
  exact ⟨⟨v', fs', l.drew, m, p.later fun _ _ => rfl⟩, L.keep _ _ _ i (Grew.refl _).drew, g'.drew⟩
/-- one key put or dropped -/
def stepF (ks vs : Nat → ByteArray) (F : ByteArray → Option ByteArray) (j : Nat) : ByteArray → Option ByteArray := upF F (ks j) (if (vs j).toList.isEmpty then none else some (vs j))
def foldF (ks vs : Nat → ByteArray) (F : ByteArray → Option ByteArray) (i : Nat) : Nat → ByteArray → Option ByteArray
  | 0 => F
  | n + 1 => stepF ks vs (foldF ks vs F i n) (i + n)
/-- the boxes of what a Try runs -/
structure TbAt (ib lb vb mx kb fb mb i last vl vc kl kc fl fc : Nat) (va ka fa : Option Addr) (w : World) : Prop where
  i : Box ib 3 (.int .i64 i) w
  l : Box lb 3 (.int .i64 last) w
  v : Box vb 40 (.slice va vl vc) w
  m : Box mx 42 (.map (some mb)) w
  k : Box kb 40 (.slice ka kl kc) w
  f : Box fb 41 (.slice fa fl fc) w
theorem Box.plain {S0 : Nat → Prop} {b : Nat} {t : TypeId} {x : Value} {w : World} (h : Box b t x w) (hs : ¬ S0 b) (h1 : t ≠ 1) (h2 : t ≠ 43) : Plain S0 w b := ⟨hs, _, _, _, h, h1, h2⟩
theorem TbAt.kept {ib lb vb mx kb fb mb i last vl vc kl kc fl fc : Nat} {va ka fa : Option Addr} {S0 : Nat → Prop} {w w' : World} (h : TbAt ib lb vb mx kb fb mb i last vl vc kl kc fl fc va ka fa w) (k : Kept S0 w w') (hs : ¬ S0 ib ∧ ¬ S0 lb ∧ ¬ S0 vb ∧ ¬ S0 mx ∧ ¬ S0 kb ∧ ¬ S0 fb) : TbAt ib lb vb mx kb fb mb i last vl vc kl kc fl fc va ka fa w' :=
  ⟨(k _ (h.i.plain hs.1 (by decide) (by decide))).trans h.i, (k _ (h.l.plain hs.2.1 (by decide) (by decide))).trans h.l, (k _ (h.v.plain hs.2.2.1 (by decide) (by decide))).trans h.v, (k _ (h.m.plain hs.2.2.2.1 (by decide) (by decide))).trans h.m, (k _ (h.k.plain hs.2.2.2.2.1 (by decide) (by decide))).trans h.k, (k _ (h.f.plain hs.2.2.2.2.2 (by decide) (by decide))).trans h.f⟩
theorem strs_at {w : World} {a : Option Addr} {l : Nat} {ss : Nat → ByteArray} (h : StrsIn w a l ss) (hl : 0 < l) : ∃ b off, a = some ⟨b, off, none⟩ ∧ ∀ i, i < l → w.cell? ⟨b, off + i, none⟩ = some (.string (ss i)) ∧ (ss i).size ≤ maxLen := by
  rcases h with h | h
  · omega
  · exact h
theorem bools_at {w : World} {a : Option Addr} {l : Nat} {bs : Nat → Bool} (h : BoolsAt w a l bs) (hl : 0 < l) : ∃ b off, a = some ⟨b, off, none⟩ ∧ ∀ i, i < l → w.cell? ⟨b, off + i, none⟩ = some (.bool (bs i)) := by
  rcases h with h | h
  · omega
  · exact h
set_option maxHeartbeats 1000000 in
theorem tblRun_any (w0 : World) (g mb ib lb vb mx kb fb i last vl vc kl kc fl fc : Nat) (va ka fa : Option Addr) (ks vs : Nat → ByteArray) (bs : Nat → Bool) (F : ByteArray → Option ByteArray) (Ls : List ByteArray) (v : Value) (W : World)
    (hn : mb ≠ g) (hS : ∀ k, tabS0 mb g k → w0.heap.size ≤ k) (hNb : ¬ tabS0 mb g ib ∧ ¬ tabS0 mb g lb ∧ ¬ tabS0 mb g vb ∧ ¬ tabS0 mb g mx ∧ ¬ tabS0 mb g kb ∧ ¬ tabS0 mb g fb)
    (hil : i ≤ last) (hlast : last < 30) (hlk : last < kl) (hlv : last < vl) (hlf : last < fl)
    (hK : StrsIn w0 ka kl ks) (hV : StrsIn w0 va vl vs) (hFl : BoolsAt w0 fa fl bs) (hBl : Below w0.heap.size w0 W)
    (hT : TbAt ib lb vb mx kb fb mb i last vl vc kl kc fl fc va ka fa W) (hL : LogAt w0.heap.size g 1 v [] W) (hI : tabI mb g Ls F W) (hLs : Ls.length < 1000000) (hks : ∀ j, j ≤ last → ks j ∈ Ls) :
    Calls Try.prog 20 #[.pointer (some ⟨ib, 0, none⟩), .pointer (some ⟨lb, 0, none⟩), .pointer (some ⟨vb, 0, none⟩), .pointer (some ⟨g, 0, none⟩), .pointer (some ⟨mx, 0, none⟩), .pointer (some ⟨kb, 0, none⟩), .pointer (some ⟨fb, 0, none⟩)] W fun e w' => e = Ends (if bs last then some 11 else none) ∧ Did w0.heap.size g 0 (tabS0 mb g) (tabI mb g Ls) [] 30 F (foldF ks vs F i (last + 1 - i)) W w' := by
  have LG := tabLogged mb g Ls hn
  have AC := tabAcc mb g Ls hn
  obtain ⟨B, hB⟩ : ∃ B, w0.heap.size = B := ⟨_, rfl⟩
  have HBw : Hid (B ≤ W.heap.size) := Lib.hid (by rw [← hB]; exact hBl.size)
  -- what can be read behind whatever was done
  have HR : Hid (∀ wx, Grew (Mut B (tabS0 mb g) W) W wx → TbAt ib lb vb mx kb fb mb i last vl vc kl kc fl fc va ka fa wx ∧ StrsIn wx ka kl ks ∧ StrsIn wx va vl vs ∧ BoolsAt wx fa fl bs) := Lib.hid fun wx hg => by
    have hb : Below w0.heap.size w0 wx := hg.below hBl hBl.size fun k m => by
      rcases m with m | m
      · exact hS k m
      · rw [hB]; exact m.1
    exact ⟨hT.kept (Kept.of hg) hNb, hK.below hb, hV.below hb, hFl.below hb⟩
  have HD0 : Hid (Did B g 0 (tabS0 mb g) (tabI mb g Ls) [] 0 F F W W) := Lib.hid (Did.none (by rw [← hB]; exact hL) hI)
  have HDr : Hid (∀ wx n s1 kx, Did B g 0 (tabS0 mb g) (tabI mb g Ls) [] n F s1 W wx → n ≤ 29 → kx.size ≤ maxLen → Calls Try.prog 21 #[.pointer (some ⟨g, 0, none⟩), .map (some mb), .string kx] wx fun e w' => e = .returned (.tuple #[]) ∧ Did B g 0 (tabS0 mb g) (tabI mb g Ls) [] (n + 1) F (upF s1 kx none) W w') := Lib.hid fun wx n s1 kx hd hn29 hkx => by
    obtain ⟨⟨v1, fs1, l1, m1, p1⟩, i1, g1⟩ := hd
    refine (dropSS LG AC hLs B 0 v1 fs1 s1 kx wx l1 (by omega) (Nat.le_trans HBw.out g1.size) i1 hkx (tabLog hn l1 i1)).mono ?_
    rintro e w' ⟨rfl, hd'⟩
    refine ⟨rfl, ?_⟩
    exact Did.chain l1 m1 p1 g1 hd'
  have HPt : Hid (∀ wx n s1 kx y, Did B g 0 (tabS0 mb g) (tabI mb g Ls) [] n F s1 W wx → n ≤ 29 → kx.size ≤ maxLen → y.size ≤ maxLen → kx ∈ Ls → Calls Try.prog 22 #[.pointer (some ⟨g, 0, none⟩), .map (some mb), .string kx, .string y] wx fun e w' => e = .returned (.tuple #[]) ∧ Did B g 0 (tabS0 mb g) (tabI mb g Ls) [] (n + 1) F (upF s1 kx (some y)) W w') := Lib.hid fun wx n s1 kx y hd hn29 hkx hy hin => by
    obtain ⟨⟨v1, fs1, l1, m1, p1⟩, i1, g1⟩ := hd
    refine (putSS LG AC hLs B 0 v1 fs1 s1 kx y wx l1 (by omega) (Nat.le_trans HBw.out g1.size) i1 hkx hy hin (tabLog hn l1 i1)).mono ?_
    rintro e w' ⟨rfl, hd'⟩
    exact ⟨rfl, Did.chain l1 m1 p1 g1 hd'⟩
  have HKs := Lib.hid hks
  have HLGd := Lib.hid LG
  have HFf : Hid (∀ j, foldF ks vs F i (j + 1) = upF (foldF ks vs F i j) (ks (i + j)) (if (vs (i + j)).toList.isEmpty then none else some (vs (i + j)))) := Lib.hid fun _ => rfl
  rw [hB] at hL ⊢
  obtain ⟨FE, hFE⟩ : ∃ FE, foldF ks vs F i (last + 1 - i) = FE := ⟨_, rfl⟩
  obtain ⟨bl, hbl⟩ : ∃ bl, bs last = bl := ⟨_, rfl⟩
  obtain ⟨oo, hoo⟩ : ∃ oo : Option Int, (if bl = true then some 11 else none) = oo := ⟨_, rfl⟩
  rw [hFE, hbl, hoo]
  have HFE := Lib.hid hFE
  have HBL := Lib.hid hbl
  have HOO := Lib.hid hoo
  clear hFE hbl hoo
  clear hL hI hT hBl hK hV hFl hS hNb hks LG AC hn hLs
  go_enter Try.func20, Try.ntmps20
  have hr0 := HR.out W (Grew.refl W)
  have c0 := hr0.1.i.cell
  clear hr0
  go_wp2_with fail
  go_loopw [7] (fun kx wx => ∃ K : Nat, kx = .int .i64 (K : Int) ∧ i ≤ K ∧ K ≤ last + 1 ∧ Did B g 0 (tabS0 mb g) (tabI mb g Ls) [] (K - i) F (foldF ks vs F i (K - i)) W wx) (fun kx _ => last + 1 - (intOf kx).toNat)
  case atStart => exact ⟨i, rfl, Nat.le_refl _, by omega, by rw [Nat.sub_self]; exact HD0.out⟩
  case round =>
    obtain ⟨K, rfl, hK1, hK2, hD⟩ := hrel
    have HD := Lib.hid hD
    clear hD c0
    obtain ⟨hTx, hKx, hVx, hFx⟩ := HR.out wr HD.out.grew
    have c1 := hTx.i.cell
    have c2 := hTx.l.cell
    have c3 := hTx.v.cell
    have c4 := hTx.m.cell
    have c5 := hTx.k.cell
    have c6 := hTx.f.cell
    by_cases hlt : K ≤ last
    · have i0 : (K : Int) ≤ (last : Int) := by omega
      obtain ⟨kb1, ko, rfl, hkr⟩ := strs_at hKx (by omega)
      obtain ⟨vb1, vo, rfl, hvr⟩ := strs_at hVx (by omega)
      have hck := (hkr K (by omega)).1
      have hcv := (hvr K (by omega)).1
      have hsk := (hkr K (by omega)).2
      have hsv := (hvr K (by omega)).2
      have HSk := Lib.hid hsk
      have HSv := Lib.hid hsv
      have HIn := Lib.hid (HKs.out K hlt)
      have i1 : (0 : Int) ≤ (K : Int) := by omega
      have i2 : (K : Int) < (kl : Int) := by omega
      have i3 : (K : Int) < (vl : Int) := by omega
      have HFK := Lib.hid (HFf.out (K - i))
      rw [show i + (K - i) = K by omega, show K - i + 1 = K + 1 - i by omega] at HFK
      have HDd := Lib.hid (HD.out.drew HLGd.out)
      have hn1 : K - i ≤ 29 := by omega
      have HN1 := Lib.hid hn1
      have HE2 : Hid (K - i + 1 = K + 1 - i) := Lib.hid (by omega)
      have HB2 : Hid (i ≤ K + 1 ∧ K + 1 ≤ last + 1) := Lib.hid (by omega)
      have HKp : Hid (∀ wx, Grew (Mut B (tabS0 mb g) W) W wx → wx.cell? ⟨mx, 0, none⟩ = some (.map (some mb)) ∧ wx.cell? ⟨kb, 0, none⟩ = some (.slice (some ⟨kb1, ko, none⟩) kl kc) ∧ wx.cell? ⟨kb1, ko + K, none⟩ = some (.string (ks K)) ∧ wx.cell? ⟨vb, 0, none⟩ = some (.slice (some ⟨vb1, vo, none⟩) vl vc) ∧ wx.cell? ⟨vb1, vo + K, none⟩ = some (.string (vs K))) := Lib.hid fun wx hg => by
        obtain ⟨h1, h2, h3, _⟩ := HR.out wx hg
        obtain ⟨b1, o1, e1, r1⟩ := strs_at h2 (by omega)
        obtain ⟨b2, o2, e2, r2⟩ := strs_at h3 (by omega)
        cases e1
        cases e2
        exact ⟨h1.m.cell, h1.k.cell, (r1 K (by omega)).1, h1.v.cell, (r2 K (by omega)).1⟩
      have HGd := Lib.hid HDd.out.grew
      clear hkr hvr hKx hVx hFx hTx hsk hsv hn1
      generalize foldF ks vs F i (K - i) = FK at *
      generalize ks K = kx at *
      generalize vs K = vx at *
      by_cases he : vx.toList.isEmpty = true
      · have HFe : Hid (foldF ks vs F i (K + 1 - i) = upF FK kx none) := Lib.hid (by rw [HFK.out, if_pos he])
        clear HFK
        go_wp2_with fail
        go_region_held3 (fun wx => wx.cell? ⟨mx, 0, none⟩ = some (.map (some mb)) ∧ wx.cell? ⟨kb, 0, none⟩ = some (.slice (some ⟨kb1, ko, none⟩) kl kc) ∧ wx.cell? ⟨kb1, ko + K, none⟩ = some (.string kx) ∧ wx.cell? ⟨vb, 0, none⟩ = some (.slice (some ⟨vb1, vo, none⟩) vl vc) ∧ wx.cell? ⟨vb1, vo + K, none⟩ = some (.string vx))
          (first | exact HKp.out _ HGd.out | exact HKp.out _ HD1.out.grew)
          (first | (go_at_call 21; (with_reducible refine (HDr.out wr.drew _ _ kx HDd.out HN1.out HSk.out).mono ?_); rintro e w1 ⟨rfl, hd1⟩; (have HD1 := Lib.hid hd1); clear hd1))
        all_goals
          go_wp2_with fail
          go_roundw
          case rel => exact ⟨K + 1, by go_num, HB2.out.1, HB2.out.2, by have := HD1.out; rw [HE2.out] at this; rw [HFe.out]; exact this⟩
          case measure => simp [intOf]; omega
      · have he' : vx.toList.isEmpty = false := by simpa using he
        have HFe : Hid (foldF ks vs F i (K + 1 - i) = upF FK kx (some vx)) := Lib.hid (by rw [HFK.out, if_neg he])
        clear HFK he
        go_wp2_with fail
        go_region_held3 (fun wx => wx.cell? ⟨mx, 0, none⟩ = some (.map (some mb)) ∧ wx.cell? ⟨kb, 0, none⟩ = some (.slice (some ⟨kb1, ko, none⟩) kl kc) ∧ wx.cell? ⟨kb1, ko + K, none⟩ = some (.string kx) ∧ wx.cell? ⟨vb, 0, none⟩ = some (.slice (some ⟨vb1, vo, none⟩) vl vc) ∧ wx.cell? ⟨vb1, vo + K, none⟩ = some (.string vx))
          (first | exact HKp.out _ HGd.out | exact HKp.out _ HD1.out.grew)
          (first | (go_at_call 22; (with_reducible refine (HPt.out wr.drew _ _ kx vx HDd.out HN1.out HSk.out HSv.out HIn.out).mono ?_); rintro e w1 ⟨rfl, hd1⟩; (have HD1 := Lib.hid hd1); clear hd1))
        all_goals
          go_wp2_with fail
          go_roundw
          case rel => exact ⟨K + 1, by go_num, HB2.out.1, HB2.out.2, by have := HD1.out; rw [HE2.out] at this; rw [HFe.out]; exact this⟩
          case measure => simp [intOf]; omega
    · obtain rfl : K = last + 1 := by omega
      have i0 : ¬ ((last + 1 : Nat) : Int) ≤ (last : Int) := by omega
      obtain ⟨fb1, fo, rfl, hfr⟩ := bools_at hFx (by omega)
      have hcf := hfr last hlf
      have i1 : (0 : Int) ≤ (last : Int) := by omega
      have i2 : (last : Int) < (fl : Int) := by omega
      have HFin : Hid (Did B g 0 (tabS0 mb g) (tabI mb g Ls) [] 30 F FE W wr) := Lib.hid (by rw [← HFE.out]; exact HD.out.mono (by omega))
      rw [HBL.out] at hcf
      clear hfr hKx hVx hTx HFf HFE HD
      cases bl with
      | false =>
        obtain rfl : none = oo := HOO.out
        go_wp2_with fail
        go_end0
        exact ⟨rfl, HFin.out⟩
      | true =>
        obtain rfl : some 11 = oo := HOO.out
        have HFl := Lib.hid (fail_any 11 wr)
        go_wp2_with fail
        refine HFl.out.mono ?_
        rintro e w3 ⟨rfl, rfl⟩
        unfold failed
        go_wp2_with fail
        exact ⟨rfl, rfl, HFin.out⟩
end Go.Proofs.Ytdeohkkpmjgaoaa
