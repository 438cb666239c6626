/-
  The plain mathematics of SHA-256 on numbers: turning, choosing, spreading a block's words, the rounds. Nothing of the program is named here.
-/
namespace Go.Proofs.YtfmhcomebjggoaaDoor.Sha

def rotr (x n : Nat) : Nat := x * 2 ^ (32 - n) % 4294967296 ||| x / 2 ^ n
def ch (e f g : Nat) : Nat := (e &&& f) ||| (g &&& (4294967295 - e))
def maj (a b c : Nat) : Nat := (a &&& b) ||| (a &&& c) ||| (b &&& c)
def s0 (x : Nat) : Nat := rotr x 7 ^^^ rotr x 18 ^^^ x / 8
def s1 (x : Nat) : Nat := rotr x 17 ^^^ rotr x 19 ^^^ x / 1024
def b1 (x : Nat) : Nat := rotr x 6 ^^^ rotr x 11 ^^^ rotr x 25
def b0 (x : Nat) : Nat := rotr x 2 ^^^ rotr x 13 ^^^ rotr x 22
def word (blk : Nat → Nat) (i : Nat) : Nat := blk (4 * i) * 16777216 ||| blk (4 * i + 1) * 65536 ||| blk (4 * i + 2) * 256 ||| blk (4 * i + 3)
def next (l : List Nat) (k : Nat) : Nat := (((l.getD k 0 + s0 (l.getD (k + 1) 0)) % 4294967296 + l.getD (k + 9) 0) % 4294967296 + s1 (l.getD (k + 14) 0)) % 4294967296
def ws (blk : Nat → Nat) : Nat → List Nat
  | 0 => (List.range 16).map (word blk)
  | k + 1 => ws blk k ++ [next (ws blk k) k]
structure St where
  a : Nat
  b : Nat
  c : Nat
  d : Nat
  e : Nat
  f : Nat
  g : Nat
  z : Nat
def rnd (k w : Nat) (s : St) : St :=
  let t1 := ((((s.z + b1 s.e) % 4294967296 + ch s.e s.f s.g) % 4294967296 + k) % 4294967296 + w) % 4294967296
  let t2 := (b0 s.a + maj s.a s.b s.c) % 4294967296
  ⟨(t1 + t2) % 4294967296, s.a, s.b, s.c, (s.d + t1) % 4294967296, s.e, s.f, s.g⟩
def rnds (K W : Nat → Nat) (s : St) : Nat → St
  | 0 => s
  | i + 1 => rnd (K i) (W i) (rnds K W s i)
def plus (s r : St) : St := ⟨(s.a + r.a) % 4294967296, (s.b + r.b) % 4294967296, (s.c + r.c) % 4294967296, (s.d + r.d) % 4294967296, (s.e + r.e) % 4294967296, (s.f + r.f) % 4294967296, (s.g + r.g) % 4294967296, (s.z + r.z) % 4294967296⟩
def St.ok (s : St) : Prop := s.a < 4294967296 ∧ s.b < 4294967296 ∧ s.c < 4294967296 ∧ s.d < 4294967296 ∧ s.e < 4294967296 ∧ s.f < 4294967296 ∧ s.g < 4294967296 ∧ s.z < 4294967296

theorem or_lt {x y : Nat} (hx : x < 4294967296) (hy : y < 4294967296) : x ||| y < 4294967296 := Nat.or_lt_two_pow (n := 32) (by omega) (by omega)
theorem xor_lt {x y : Nat} (hx : x < 4294967296) (hy : y < 4294967296) : x ^^^ y < 4294967296 := Nat.xor_lt_two_pow (n := 32) (by omega) (by omega)
theorem and_lt {x y : Nat} (hy : y < 4294967296) : x &&& y < 4294967296 := Nat.and_lt_two_pow (n := 32) x (by omega)
theorem div_lt {x : Nat} (n : Nat) (hx : x < 4294967296) : x / n < 4294967296 := Nat.lt_of_le_of_lt (Nat.div_le_self _ _) hx
theorem mod_lt (x : Nat) : x % 4294967296 < 4294967296 := Nat.mod_lt _ (by decide)
theorem rotr_lt {x : Nat} (n : Nat) (hx : x < 4294967296) : rotr x n < 4294967296 := or_lt (mod_lt _) (div_lt _ hx)
theorem ch_lt {e f g : Nat} (hf : f < 4294967296) : ch e f g < 4294967296 := or_lt (and_lt hf) (and_lt (by omega))
theorem maj_lt {a b c : Nat} (hb : b < 4294967296) (hc : c < 4294967296) : maj a b c < 4294967296 := or_lt (or_lt (and_lt hb) (and_lt hc)) (and_lt hc)
theorem s0_lt {x : Nat} (hx : x < 4294967296) : s0 x < 4294967296 := xor_lt (xor_lt (rotr_lt _ hx) (rotr_lt _ hx)) (div_lt _ hx)
theorem s1_lt {x : Nat} (hx : x < 4294967296) : s1 x < 4294967296 := xor_lt (xor_lt (rotr_lt _ hx) (rotr_lt _ hx)) (div_lt _ hx)
theorem b0_lt {x : Nat} (hx : x < 4294967296) : b0 x < 4294967296 := xor_lt (xor_lt (rotr_lt _ hx) (rotr_lt _ hx)) (rotr_lt _ hx)
theorem b1_lt {x : Nat} (hx : x < 4294967296) : b1 x < 4294967296 := xor_lt (xor_lt (rotr_lt _ hx) (rotr_lt _ hx)) (rotr_lt _ hx)
theorem word_lt (blk : Nat → Nat) (h : ∀ i, blk i < 256) (i : Nat) : word blk i < 4294967296 := by
  have h0 := h (4 * i)
  have h1 := h (4 * i + 1)
  have h2 := h (4 * i + 2)
  have h3 := h (4 * i + 3)
  exact or_lt (or_lt (or_lt (by omega) (by omega)) (by omega)) (by omega)
theorem next_lt (l : List Nat) (k : Nat) : next l k < 4294967296 := mod_lt _
theorem ws_len (blk : Nat → Nat) (k : Nat) : (ws blk k).length = 16 + k := by
  induction k with
  | zero => simp [ws]
  | succ k ih => simp [ws, ih]; omega
theorem getD_lt (l : List Nat) (h : ∀ x ∈ l, x < 4294967296) (i : Nat) : l.getD i 0 < 4294967296 := by
  by_cases hi : i < l.length
  · rw [List.getD_eq_getElem?_getD, List.getElem?_eq_getElem hi, Option.getD_some]
    exact h _ (List.getElem_mem hi)
  · rw [List.getD_eq_getElem?_getD, List.getElem?_eq_none (by omega), Option.getD_none]
    omega
theorem ws_mem (blk : Nat → Nat) (h : ∀ i, blk i < 256) (k : Nat) : ∀ x ∈ ws blk k, x < 4294967296 := by
  induction k with
  | zero =>
    intro x hx
    rw [ws, List.mem_map] at hx
    obtain ⟨i, _, rfl⟩ := hx
    exact word_lt blk h i
  | succ k ih =>
    intro x hx
    rw [ws, List.mem_append] at hx
    rcases hx with hx | hx
    · exact ih x hx
    · rw [List.mem_singleton] at hx
      rw [hx]
      exact next_lt _ _
theorem ws_lt (blk : Nat → Nat) (h : ∀ i, blk i < 256) (k i : Nat) : (ws blk k).getD i 0 < 4294967296 := getD_lt _ (ws_mem blk h k) i
theorem rnd_ok {k w : Nat} {s : St} (h : s.ok) : (rnd k w s).ok := by
  obtain ⟨ha, hb, hc, hd, he, hf, hg, hz⟩ := h
  exact ⟨mod_lt _, ha, hb, hc, mod_lt _, he, hf, hg⟩
theorem rnds_ok {K W : Nat → Nat} {s : St} (h : s.ok) (i : Nat) : (rnds K W s i).ok := by
  induction i with
  | zero => exact h
  | succ i ih => exact rnd_ok ih
theorem plus_ok (s r : St) : (plus s r).ok := ⟨mod_lt _, mod_lt _, mod_lt _, mod_lt _, mod_lt _, mod_lt _, mod_lt _, mod_lt _⟩
end Go.Proofs.YtfmhcomebjggoaaDoor.Sha
