/-
  Law 10's HeapAdopts: the heap as a function of what was seen; a Try of it: contracts.
-/
import Derived.Test.YtdeohkkpmjgaoaaHeapAdG2
import Derived.Test.YtdeohkkpmjgaoaaRngII
namespace Go.Proofs.Ytdeohkkpmjgaoaa
open Go.RowKit Go.Maps Go.ChangeMaps Go.WideShapes

/-- F: what was seen; G: what is still held of that -/
def adS (F G : Int → Option Int) : HS := ⟨fun i => if (G ((2 + i : Nat) : Int)).isSome then 1 else if (F ((2 + i : Nat) : Int)).isSome then 2 else 0, G, fun _ => none, [], 0⟩
theorem two_inj {i j : Nat} : ((2 + j : Nat) : Int) = ((2 + i : Nat) : Int) ↔ j = i := by omega
theorem adS_adopt (F : Int → Option Int) (i : Nat) : (adS F F).adopt i ((2 + i : Nat) : Int) = adS (upF F ((2 + i : Nat) : Int) (some ((F ((2 + i : Nat) : Int)).getD 0 + 1))) (upF F ((2 + i : Nat) : Int) (some ((F ((2 + i : Nat) : Int)).getD 0 + 1))) := by
  have e : upd (adS F F).S i 1 = (adS (upF F ((2 + i : Nat) : Int) (some ((F ((2 + i : Nat) : Int)).getD 0 + 1))) (upF F ((2 + i : Nat) : Int) (some ((F ((2 + i : Nat) : Int)).getD 0 + 1)))).S := by
    funext j
    show (if j = i then 1 else if (F ((2 + j : Nat) : Int)).isSome then 1 else if (F ((2 + j : Nat) : Int)).isSome then 2 else 0) = (if (upF F _ _ ((2 + j : Nat) : Int)).isSome then 1 else if (upF F _ _ ((2 + j : Nat) : Int)).isSome then 2 else 0)
    by_cases h : j = i
    · subst h
      rw [if_pos rfl, upF_same]
      rfl
    · rw [if_neg h]
      have : upF F ((2 + i : Nat) : Int) (some ((F ((2 + i : Nat) : Int)).getD 0 + 1)) ((2 + j : Nat) : Int) = F ((2 + j : Nat) : Int) := if_neg fun e => h (two_inj.1 e)
      rw [this]
  unfold HS.adopt
  rw [e]
  rfl
theorem adS_let (F G : Int → Option Int) (i : Nat) (hF : (F ((2 + i : Nat) : Int)).isSome = true) : (adS F G).letGo i ((2 + i : Nat) : Int) = adS F (upF G ((2 + i : Nat) : Int) none) := by
  have e : upd (adS F G).S i 2 = (adS F (upF G ((2 + i : Nat) : Int) none)).S := by
    funext j
    show (if j = i then 2 else if (G ((2 + j : Nat) : Int)).isSome then 1 else if (F ((2 + j : Nat) : Int)).isSome then 2 else 0) = (if (upF G _ _ ((2 + j : Nat) : Int)).isSome then 1 else if (F ((2 + j : Nat) : Int)).isSome then 2 else 0)
    by_cases h : j = i
    · subst h
      rw [if_pos rfl, upF_same, hF]
      rfl
    · rw [if_neg h]
      have : upF G ((2 + i : Nat) : Int) none ((2 + j : Nat) : Int) = G ((2 + j : Nat) : Int) := if_neg fun e => h (two_inj.1 e)
      rw [this]
  unfold HS.letGo
  rw [e]
  rfl
set_option maxRecDepth 100000 in
theorem adTry (b : HB) (ok : b.ok) (hbf : b.f = 2) (F G : Int → Option Int) (T c : Int) (hT : T ∈ b.keys) (hF : F T = some c) (hG : G T = some c) (hc : 1 ≤ c ∧ c ≤ 20) (nx hx ax : Nat) (w : World) (h : HeapI b (adS F G) w) (hl : LogAt b.B b.g 0 (.slice none 0 0) [] w) (b1 : Box nx 3 (.int .i64 c) w) (b2 : Box hx 54 (.pointer (some ⟨b.hb, 0, none⟩)) w) (b3 : Box ax 3 (.int .i64 T) w) (hS : ∀ k, k = nx ∨ k = hx ∨ k = ax → ¬ b.S0 k) :
    Calls Try.prog 33 #[.pointer (some ⟨b.hb, 0, none⟩), .func (.func 34) #[] #[.pointer (some ⟨nx, 0, none⟩), .pointer (some ⟨hx, 0, none⟩), .pointer (some ⟨ax, 0, none⟩)]] w fun e w' => e = .returned (.int .i64 0) ∧ HeapI b (adS F (upF G T none)) w' ∧ LogAt b.B b.g 0 (.slice none 0 0) [] w' ∧ Grew (fun q => b.S0 q) w w' := by
  obtain ⟨i, hi, rfl⟩ := List.mem_map.1 hT
  have hi : i < b.n := List.mem_range.1 hi
  obtain ⟨r, rfl⟩ : ∃ r : Nat, c = (r : Int) := ⟨c.toNat, by omega⟩
  obtain ⟨b', hb'⟩ : ∃ b' : HB, ({ b with B := w.heap.size } : HB) = b' := ⟨_, rfl⟩
  have ok' : b'.ok := by rw [← hb']; exact HB.ok_at ok _ h.sz
  have f' : b'.f = b.f := by rw [← hb']
  have n' : b'.n = b.n := by rw [← hb']
  have p' : b'.hb = b.hb := by rw [← hb']
  have B' : b'.B = w.heap.size := by rw [← hb']
  have hS0 : ∀ k, b'.S0 k → b.S0 k := fun k hk => by
    obtain ⟨i, hi, rfl⟩ := hk
    rw [← hb']
    exact ⟨i, hi, b.blk_at _ i hi⟩
  have iW : HeapI b' (adS F G) w := by rw [← hb']; exact h.rebase rfl _ (Nat.le_refl _)
  have lW : LogAt b'.B b'.g 0 (.slice none 0 0) [] w := by rw [← hb']; exact hl.rebase _
  have gT := tryWorld_grew b'.g 0 w
  have hgS : b'.S0 b'.g := ⟨1, by decide, rfl⟩
  have bT : ∀ {x : Nat} {t : TypeId} {v : Value}, Box x t v w → ¬ b'.S0 x → Box x t v (tryWorld b'.g 0 w) := fun h hs => h.keep gT fun e => hs (e ▸ hgS)
  have hS' : ∀ k, k = nx ∨ k = hx ∨ k = ax → ¬ b'.S0 k := fun k hk hs => hS k hk (hS0 k hs)
  have he : ¬ b'.S0 w.heap.size := HB.not0 ok' (Nat.le_of_eq B') (Nat.le_refl _)
  have eT : ((2 + i : Nat) : Int) = ((b.f + i : Nat) : Int) := by rw [hbf]
  rw [← p']
  refine (hTryOk b' ok' (adS F G) w iW lW 34 _ (fun s1 w' => s1 = (adS F G).letGo i ((b.f + i : Nat) : Int) ∧ Grew (fun q => b'.S0 q ∨ b'.B ≤ q) (tryWorld b'.g 0 w) w') (fun _ => by rfl) fun hin => ?_).mono ?_
  · refine (lessAll_any b' ok' (adS F G) i ((b.f + i : Nat) : Int) (by rw [f']) r (by omega) ?_ rfl hG (by omega) (by omega) nx hx ax w.heap.size hS' he _ hin (bT b1 (hS' _ (by simp))) (by rw [p']; exact bT b2 (hS' _ (by simp))) (bT b3 (hS' _ (by simp))) (tryWorld_box b'.g 0 w)).mono ?_
    · show (if (G ((2 + i : Nat) : Int)).isSome then 1 else _) = 1
      rw [eT, hG]
      rfl
    · rintro e w' ⟨rfl, hI, hbx, hgr⟩
      exact ⟨_, _, rfl, hI, GoneOk.nil rfl, hbx, rfl, hgr⟩
  · rintro e w' ⟨s1, w5, rfl, ⟨rfl, hgr⟩, hI6, hL6, g6⟩
    rw [HS.fin_nil _ _ rfl] at hI6
    have e1 := adS_let F G i (by rw [eT, hF]; rfl)
    rw [eT] at e1
    rw [e1] at hI6
    have hsz : b.B ≤ w'.heap.size := by
      have a1 := gT.size
      have a2 := hgr.size
      have a3 := g6.size
      have a4 := h.sz
      omega
    have k1 : Grew (fun q => b.S0 q) w w' := ((gT.mono fun x _ e => hS0 x (by rw [e]; exact hgS)).step hgr fun x hx m => by
      rcases m with m | m
      · exact hS0 x m
      · omega).step g6 fun x hx m => by
        rcases m with m | m
        · exact hS0 x m
        · omega
    refine ⟨rfl, ?_, ?_, k1⟩
    · have := hI6.rebase rfl b.B hsz
      rw [← hb'] at this
      exact this
    · have := hL6.rebase b.B
      rw [← hb'] at this
      exact this
end Go.Proofs.Ytdeohkkpmjgaoaa
