/-
  The plain mathematics of CRC-32C on lists of bytes: eight bits leave the sum, a text is added, and what follows for texts that are xored, for a text with its own sum behind it, and for up to four bytes that are others. Nothing of the program is named here.
-/
namespace Go.Proofs.YtbohpffigmllkaaGreatDoor.C.Crc

def one (x : Nat) : Nat := if x % 2 = 1 then x / 2 ^^^ 2197175160 else x / 2
def many : Nat → Nat → Nat
  | 0, x => x
  | n + 1, x => one (many n x)
def step (x : Nat) : Nat := many 8 x
def add (s : Nat) (l : List UInt8) : Nat := l.foldl (fun s b => step (s ^^^ b.toNat)) s
def sum (l : List UInt8) : Nat := 4294967295 - add 4294967295 l
def le : List UInt8 → Nat
  | [] => 0
  | b :: l => b.toNat + 256 * le l

theorem many_front (n x : Nat) : many (n + 1) x = many n (one x) := by
  induction n with
  | zero => rfl
  | succ n ih => show one (many (n + 1) x) = one (many n (one x)); rw [ih]
theorem many_add (m n x : Nat) : many (m + n) x = many m (many n x) := by
  induction m with
  | zero => simp [many]
  | succ m ih => rw [Nat.add_right_comm]; show one _ = one _; rw [ih]

theorem mod_two_xor (x y : Nat) : (x ^^^ y) % 2 = (x % 2 + y % 2) % 2 := by
  have h := @Nat.xor_mod_two_pow x y 1
  rw [Nat.pow_one] at h
  rw [h]
  rcases Nat.mod_two_eq_zero_or_one x with hx | hx <;> rcases Nat.mod_two_eq_zero_or_one y with hy | hy <;> rw [hx, hy] <;> decide

theorem xor_self_left (p a : Nat) : p ^^^ (p ^^^ a) = a := by rw [← Nat.xor_assoc, Nat.xor_self, Nat.zero_xor]
theorem xor_left_comm (a b c : Nat) : a ^^^ (b ^^^ c) = b ^^^ (a ^^^ c) := by rw [← Nat.xor_assoc, Nat.xor_comm a b, Nat.xor_assoc]

theorem one_xor (x y : Nat) : one (x ^^^ y) = one x ^^^ one y := by
  unfold one
  rw [mod_two_xor, Nat.xor_div_two]
  rcases Nat.mod_two_eq_zero_or_one x with hx | hx <;> rcases Nat.mod_two_eq_zero_or_one y with hy | hy <;> simp only [hx, hy]
  · simp
  · simp [Nat.xor_assoc]
  · simp [Nat.xor_assoc, Nat.xor_comm 2197175160 (y / 2)]
  · rw [if_neg (by decide), if_pos trivial, if_pos trivial]
    have e : x / 2 ^^^ 2197175160 ^^^ (y / 2 ^^^ 2197175160) = x / 2 ^^^ y / 2 ^^^ (2197175160 ^^^ 2197175160) := by ac_rfl
    rw [e, Nat.xor_self, Nat.xor_zero]

theorem many_xor (n x y : Nat) : many n (x ^^^ y) = many n x ^^^ many n y := by
  induction n with
  | zero => rfl
  | succ n ih => show one _ = one _ ^^^ one _; rw [ih, one_xor]
theorem step_xor (x y : Nat) : step (x ^^^ y) = step x ^^^ step y := many_xor 8 x y

theorem one_lt (x : Nat) (h : x < 4294967296) : one x < 4294967296 := by
  unfold one
  split
  · exact Nat.xor_lt_two_pow (n := 32) (by omega) (by omega)
  · omega
theorem many_lt (n x : Nat) (h : x < 4294967296) : many n x < 4294967296 := by
  induction n with
  | zero => exact h
  | succ n ih => exact one_lt _ ih
theorem step_lt (x : Nat) (h : x < 4294967296) : step x < 4294967296 := many_lt 8 x h
theorem xor_lt (x y : Nat) (hx : x < 4294967296) (hy : y < 4294967296) : x ^^^ y < 4294967296 :=
  Nat.xor_lt_two_pow (n := 32) (by omega) (by omega)
theorem byte_lt (b : UInt8) : b.toNat < 4294967296 := by have := b.toNat_lt; omega
theorem add_lt (s : Nat) (l : List UInt8) (h : s < 4294967296) : add s l < 4294967296 := by
  induction l generalizing s with
  | nil => exact h
  | cons b l ih => exact ih _ (step_lt _ (xor_lt _ _ h (byte_lt b)))

theorem xor_eq_zero {x y : Nat} (h : x ^^^ y = 0) : x = y := by
  have e := xor_self_left x y
  rw [h, Nat.xor_zero] at e
  exact e
theorem one_zero (z : Nat) (hz : z < 4294967296) (h : one z = 0) : z = 0 := by
  unfold one at h
  split at h
  · have e := xor_eq_zero h; omega
  · omega
theorem many_zero (n z : Nat) (hz : z < 4294967296) (h : many n z = 0) : z = 0 := by
  induction n with
  | zero => exact h
  | succ n ih => exact ih (one_zero _ (many_lt n z hz) h)
theorem many_inj (n x y : Nat) (hx : x < 4294967296) (hy : y < 4294967296) (h : many n x = many n y) : x = y := by
  refine xor_eq_zero (many_zero n _ (xor_lt _ _ hx hy) ?_)
  rw [many_xor, h, Nat.xor_self]

theorem many_shift (n y : Nat) : many n (y * 2 ^ n) = y := by
  induction n generalizing y with
  | zero => simp [many]
  | succ n ih =>
    rw [many_front]
    have e : one (y * 2 ^ (n + 1)) = y * 2 ^ n := by
      unfold one
      rw [Nat.pow_succ, ← Nat.mul_assoc, if_neg (by omega)]
      omega
    rw [e, ih]
theorem step_shift (y : Nat) : step (256 * y) = y := by rw [Nat.mul_comm]; exact many_shift 8 y

theorem byte_xor (b y : Nat) (h : b < 256) : b + 256 * y = b ^^^ (256 * y) := by
  have m := @Nat.xor_mod_two_pow b (256 * y) 8
  have d := @Nat.xor_div_two_pow b (256 * y) 8
  have e0 : 2 ^ 8 = 256 := rfl
  rw [e0] at m d
  have e1 : 256 * y % 256 = 0 := by omega
  have e2 : b / 256 = 0 := by omega
  have e3 : 256 * y / 256 = y := by omega
  rw [e1, Nat.xor_zero] at m
  rw [e2, e3, Nat.zero_xor] at d
  omega

theorem add_le (l : List UInt8) (s : Nat) : add s l = many (8 * l.length) (s ^^^ le l) := by
  induction l generalizing s with
  | nil => simp [add, le, many]
  | cons b l ih =>
    have e : add s (b :: l) = add (step (s ^^^ b.toNat)) l := rfl
    rw [e, ih]
    have f : le (b :: l) = b.toNat ^^^ (256 * le l) := byte_xor _ _ b.toNat_lt
    rw [f, List.length_cons, Nat.mul_add, many_add, ← Nat.xor_assoc]
    have g : many (8 * 1) (s ^^^ b.toNat ^^^ 256 * le l) = step (s ^^^ b.toNat) ^^^ le l := by
      show step _ = _
      rw [step_xor, step_shift]
    rw [g]

theorem le_lt (l : List UInt8) : le l < 256 ^ l.length := by
  induction l with
  | nil => simp [le]
  | cons b l ih =>
    have := b.toNat_lt
    rw [List.length_cons, Nat.pow_succ]
    unfold le
    omega
theorem le_inj (l k : List UInt8) (h : l.length = k.length) (e : le l = le k) : l = k := by
  induction l generalizing k with
  | nil => cases k with
    | nil => rfl
    | cons _ _ => simp at h
  | cons b l ih => cases k with
    | nil => simp at h
    | cons c k =>
      have hb := b.toNat_lt
      have hc := c.toNat_lt
      unfold le at e
      have e1 : b = c := UInt8.toNat_inj.mp (by omega)
      have e2 : l = k := ih k (by simpa using h) (by omega)
      rw [e1, e2]

theorem add_append (s : Nat) (l k : List UInt8) : add s (l ++ k) = add (add s l) k := by simp [add]
theorem add_snoc (s : Nat) (l : List UInt8) (b : UInt8) : add s (l ++ [b]) = step (add s l ^^^ b.toNat) := by simp [add]
theorem add_inj (l : List UInt8) (s t : Nat) (hs : s < 4294967296) (ht : t < 4294967296) (h : add s l = add t l) : s = t := by
  induction l generalizing s t with
  | nil => exact h
  | cons b l ih =>
    have e := ih _ _ (step_lt _ (xor_lt _ _ hs (byte_lt b))) (step_lt _ (xor_lt _ _ ht (byte_lt b))) h
    have f := many_inj 8 _ _ (xor_lt _ _ hs (byte_lt b)) (xor_lt _ _ ht (byte_lt b)) e
    rw [Nat.xor_comm s, Nat.xor_comm t] at f
    have g := congrArg (fun z => b.toNat ^^^ z) f
    simp only [xor_self_left] at g
    exact g

theorem le_four (l : List UInt8) (h : l.length ≤ 4) : le l < 4294967296 := by
  have a := le_lt l
  have b : 256 ^ l.length ≤ 256 ^ 4 := Nat.pow_le_pow_right (by omega) h
  have c : 256 ^ 4 = 4294967296 := rfl
  omega
theorem add_four (l k : List UInt8) (s : Nat) (hs : s < 4294967296) (h : l.length = k.length) (h4 : l.length ≤ 4) (e : add s l = add s k) : l = k := by
  rw [add_le, add_le, ← h] at e
  have f := many_inj _ _ _ (xor_lt _ _ hs (le_four l h4)) (xor_lt _ _ hs (le_four k (by omega))) e
  have g := congrArg (fun z => s ^^^ z) f
  simp only [xor_self_left] at g
  exact le_inj l k h g

theorem sum_eq (l k : List UInt8) (h : sum l = sum k) : add 4294967295 l = add 4294967295 k := by
  have a := add_lt 4294967295 l (by decide)
  have b := add_lt 4294967295 k (by decide)
  unfold sum at h
  omega
/-- up to four bytes beside each other: the sums are the same just where the texts are -/
theorem sum_spoilt (p m m' q : List UInt8) (h : m.length = m'.length) (h4 : m.length ≤ 4) (e : sum (p ++ m ++ q) = sum (p ++ m' ++ q)) : m = m' := by
  have f := sum_eq _ _ e
  rw [add_append, add_append, add_append, add_append] at f
  have hp := add_lt 4294967295 p (by decide)
  have g := add_inj q _ _ (add_lt _ m hp) (add_lt _ m' hp) f
  exact add_four m m' _ hp h h4 g

theorem flip (x : Nat) (h : x < 4294967296) : 4294967295 - x = 4294967295 ^^^ x := by
  refine Nat.eq_of_testBit_eq fun i => ?_
  have e : 4294967295 - x = 2 ^ 32 - (x + 1) := by omega
  rw [e, Nat.testBit_two_pow_sub_succ (by omega), Nat.testBit_xor]
  have f : (4294967295 : Nat) = 2 ^ 32 - 1 := by decide
  rw [f, Nat.testBit_two_pow_sub_one]
  by_cases hi : i < 32
  · simp [hi]
  · have : x.testBit i = false := Nat.testBit_lt_two_pow (Nat.lt_of_lt_of_le (by omega : x < 2 ^ 32) (Nat.pow_le_pow_right (by omega) (by omega)))
    simp [hi, this]

/-- a text with its own sum behind, the lowest byte first -/
theorem sum_behind (l m : List UInt8) (hm : m.length = 4) (h : le m = sum l) : sum (l ++ m) = 1214729159 := by
  have hl := add_lt 4294967295 l (by decide)
  have e : add 4294967295 (l ++ m) = many 32 4294967295 := by
    rw [add_append, add_le, hm, h]
    unfold sum
    rw [flip _ hl, xor_left_comm, Nat.xor_self, Nat.xor_zero]
  unfold sum
  rw [e]
  decide +kernel

def three (a b c : List UInt8) : List UInt8 := List.zipWith (fun x y => x ^^^ y) (List.zipWith (fun x y => x ^^^ y) a b) c
theorem add_three (a b c : List UInt8) (s t u : Nat) (h1 : a.length = b.length) (h2 : b.length = c.length) :
    add (s ^^^ t ^^^ u) (three a b c) = add s a ^^^ add t b ^^^ add u c := by
  induction a generalizing b c s t u with
  | nil =>
    cases b with
    | cons _ _ => simp at h1
    | nil => cases c with
      | cons _ _ => simp at h2
      | nil => rfl
  | cons x a ih =>
    cases b with
    | nil => simp at h1
    | cons y b => cases c with
      | nil => simp at h2
      | cons z c =>
        have e : step (s ^^^ t ^^^ u ^^^ (x ^^^ y ^^^ z).toNat) = step (s ^^^ x.toNat) ^^^ step (t ^^^ y.toNat) ^^^ step (u ^^^ z.toNat) := by
          rw [← step_xor, ← step_xor]
          congr 1
          rw [UInt8.toNat_xor, UInt8.toNat_xor]
          ac_rfl
        show add (step (s ^^^ t ^^^ u ^^^ (x ^^^ y ^^^ z).toNat)) (three a b c) = _
        rw [e]
        exact ih b c _ _ _ (by simpa using h1) (by simpa using h2)
/-- three texts as one -/
theorem sum_three (a b c : List UInt8) (h1 : a.length = b.length) (h2 : b.length = c.length) : sum (three a b c) = sum a ^^^ sum b ^^^ sum c := by
  have ha := add_lt 4294967295 a (by decide)
  have hb := add_lt 4294967295 b (by decide)
  have hc := add_lt 4294967295 c (by decide)
  have e := add_three a b c 4294967295 4294967295 4294967295 h1 h2
  rw [Nat.xor_self, Nat.zero_xor] at e
  unfold sum
  rw [flip _ ha, flip _ hb, flip _ hc, e, flip _ (xor_lt _ _ (xor_lt _ _ ha hb) hc)]
  generalize add 4294967295 a = A
  generalize add 4294967295 b = B
  generalize add 4294967295 c = C
  have f : 4294967295 ^^^ A ^^^ (4294967295 ^^^ B) ^^^ (4294967295 ^^^ C) = (4294967295 ^^^ 4294967295) ^^^ (4294967295 ^^^ (A ^^^ B ^^^ C)) := by ac_rfl
  rw [f, Nat.xor_self, Nat.zero_xor]
theorem sum_lt (l : List UInt8) : sum l < 4294967296 := by unfold sum; omega
theorem awake1 : sum [49, 50, 51, 52, 53, 54, 55, 56, 57] = 3808858755 := by decide +kernel
end Go.Proofs.YtbohpffigmllkaaGreatDoor.C.Crc
