/-
  A stream as a value: may it be, its bytes, and what any bytes say: what is read has these bytes alone, and a stream that may be is read again.
-/
import Derived.Test.YtbohpffigmllkaaGreatDoorPackMath
import Derived.Test.YtbohpffigmllkaaGreatDoorCrcMath
namespace Go.Proofs.YtbohpffigmllkaaGreatDoor

structure It where
  pl : Int
  dt : List UInt8
structure St where
  size : Int
  base : List UInt8
  target : List UInt8
  items : List It
def allZero (l : List UInt8) : Bool := l.all (fun b => b == 0)
/-- may it be of a volume of so many sectors -/
def okIt (size : Int) (x : It) : Bool :=
  decide (x.pl ≤ (size - 1) / 4) && (x.dt.isEmpty || (decide (x.dt.length = 256) && (!allZero x.dt && allZero (x.dt.drop (min (size - x.pl * 4) 4 * 64).toNat))))
def chkIts (size : Int) : Int → List It → Int
  | _, [] => 0
  | least, x :: r => if x.pl < least ∨ okIt size x = false then 1 else chkIts size (x.pl + 1) r
def chk (s : St) : Int := if s.size < 1 ∨ 2048 < s.size then 4 else chkIts s.size 0 s.items

def itB (x : It) : List UInt8 := enc x.pl.toNat 2 ++ (if x.dt.isEmpty then [0] else 1 :: x.dt)
def itsB (l : List It) : List UInt8 := l.flatMap itB
def markB : List UInt8 := [83, 66, 68, 70]
def headB (s : St) : List UInt8 := markB ++ ([1] ++ (enc s.size.toNat 2 ++ (s.base ++ (s.target ++ enc s.items.length 2))))
def bodyB (s : St) : List UInt8 := headB s ++ itsB s.items
def allB (s : St) : List UInt8 := bodyB s ++ enc (C.Crc.sum (bodyB s)) 4

def itP (l : List UInt8) : Except Int (It × List UInt8) :=
  if l.length < 2 then .error 2
  else if l.length < 3 then .error 2
  else if num ((l.drop 2).take 1) = 0 then .ok (⟨num (l.take 2), []⟩, l.drop 3)
  else if num ((l.drop 2).take 1) = 1 then (if l.length < 259 then .error 2 else .ok (⟨num (l.take 2), (l.drop 3).take 256⟩, l.drop 259))
  else .error 1
def itsP : Nat → List UInt8 → List It → Except Int (List It × List UInt8)
  | 0, l, acc => .ok (acc, l)
  | n + 1, l, acc => match itP l with
    | .error e => .error e
    | .ok (x, r) => itsP n r (acc ++ [x])
def bodyP (l : List UInt8) : Except Int St :=
  if l.length < 4 then .error 2
  else if l.take 4 ≠ markB then .error 1
  else if l.length < 5 then .error 2
  else if num ((l.drop 4).take 1) ≠ 1 then .error 1
  else if l.length < 73 then .error 2
  else match itsP (num ((l.drop 71).take 2)) (l.drop 73) [] with
    | .error e => .error e
    | .ok (xs, r) => if r = [] then .ok ⟨num ((l.drop 5).take 2), (l.drop 7).take 32, (l.drop 39).take 32, xs⟩ else .error 1
def allP (t : List UInt8) : Except Int St :=
  if t.length < 4 then .error 2
  else if num (t.drop (t.length - 4)) ≠ C.Crc.sum (t.take (t.length - 4)) then .error 11
  else match bodyP (t.take (t.length - 4)) with
    | .error e => .error e
    | .ok s => if chk s = 0 then .ok s else .error (chk s)

theorem enc_num (l : List UInt8) (n : Nat) (h : l.length = n) : enc (num l) n = l := by
  subst h
  have hl := num_lt l
  have h2 := num_eq (enc (num l) l.length) l (by rw [enc_len])
  have e : num (enc (num l) l.length) = num l := by rw [num_enc l.length (num l), Nat.mod_eq_of_lt hl]
  rw [e] at h2
  simpa using h2
theorem num_one (b : UInt8) : num [b] = b.toNat := by simp [num]
theorem take_one {l : List UInt8} {b : Nat} (hl : 1 ≤ l.length) (h : num (l.take 1) = b) : l = UInt8.ofNat b :: l.drop 1 := by
  match l, hl with
  | x :: r, _ =>
    have : num [x] = b := h
    rw [num_one] at this
    subst this
    simp
theorem itP_back {l r : List UInt8} {x : It} (h : itP l = .ok (x, r)) : itB x ++ r = l ∧ 0 ≤ x.pl ∧ x.pl < 65536 ∧ r.length + 3 + x.dt.length = l.length ∧ (x.dt.length = 0 ∨ x.dt.length = 256) := by
  unfold itP at h
  split at h
  · cases h
  rename_i h2
  split at h
  · cases h
  rename_i h3
  have hp : num (l.take 2) < 65536 := by
    have h1 := num_lt (l.take 2)
    have e : (l.take 2).length = 2 := by rw [List.length_take]; omega
    rw [e] at h1
    exact h1
  have hen : enc (num (l.take 2)) 2 = l.take 2 := enc_num _ _ (by rw [List.length_take]; omega)
  have hsp : l = l.take 2 ++ l.drop 2 := (List.take_append_drop 2 l).symm
  split at h
  · rename_i h0
    injection h with h
    injection h with hx hr
    subst hx hr
    have e1 := take_one (l := l.drop 2) (b := 0) (by rw [List.length_drop]; omega) h0
    refine ⟨?_, by show (0 : Int) ≤ (num (l.take 2) : Int); omega, by show (num (l.take 2) : Int) < 65536; omega, ?_, Or.inl rfl⟩
    · unfold itB
      simp only [List.isEmpty_nil, if_true, Int.toNat_natCast]
      rw [hen]
      rw [List.drop_drop] at e1
      conv => rhs; rw [hsp, e1]
      simp
    · show (l.drop 3).length + 3 + 0 = _
      rw [List.length_drop]; omega
  · split at h
    · rename_i h1
      split at h
      · cases h
      rename_i h259
      injection h with h
      injection h with hx hr
      subst hx hr
      have e1 := take_one (l := l.drop 2) (b := 1) (by rw [List.length_drop]; omega) h1
      have hl : ((l.drop 3).take 256).length = 256 := by rw [List.length_take, List.length_drop]; omega
      refine ⟨?_, by show (0 : Int) ≤ (num (l.take 2) : Int); omega, by show (num (l.take 2) : Int) < 65536; omega, ?_, Or.inr hl⟩
      · unfold itB
        have hne : ((l.drop 3).take 256).isEmpty = false := by
          cases hh : (l.drop 3).take 256 with
          | nil => rw [hh] at hl; cases hl
          | cons _ _ => rfl
        simp only [hne, Int.toNat_natCast]
        rw [hen]
        rw [List.drop_drop] at e1
        have e2 : l.drop 3 = (l.drop 3).take 256 ++ l.drop 259 := by
          have := (List.take_append_drop 256 (l.drop 3)).symm
          rw [List.drop_drop] at this
          exact this
        conv => rhs; rw [hsp, e1, e2]
        simp
      · show (l.drop 259).length + 3 + ((l.drop 3).take 256).length = _
        rw [hl, List.length_drop]; omega
    · cases h
theorem itsP_back : ∀ n l acc xs r, itsP n l acc = .ok (xs, r) → ∃ ys, xs = acc ++ ys ∧ ys.length = n ∧ itsB ys ++ r = l ∧ (∀ y ∈ ys, 0 ≤ y.pl ∧ y.pl < 65536 ∧ (y.dt.length = 0 ∨ y.dt.length = 256))
  | 0, l, acc, xs, r, h => by
    unfold itsP at h
    injection h with h
    injection h with h1 h2
    subst h1 h2
    exact ⟨[], by simp, rfl, by simp [itsB], by simp⟩
  | n + 1, l, acc, xs, r, h => by
    unfold itsP at h
    cases hx : itP l with
    | error e => rw [hx] at h; cases h
    | ok p =>
      obtain ⟨x, r1⟩ := p
      rw [hx] at h
      obtain ⟨ys, e1, e2, e3, e4⟩ := itsP_back n r1 (acc ++ [x]) xs r h
      obtain ⟨b1, b2, b3, _, b5⟩ := itP_back hx
      refine ⟨x :: ys, by rw [e1]; simp, by simp [e2], ?_, ?_⟩
      · show (itB x ++ itsB ys) ++ r = l
        rw [List.append_assoc, e3, b1]
      · intro y hy
        rcases List.mem_cons.1 hy with rfl | hy
        · exact ⟨b2, b3, b5⟩
        · exact e4 y hy
theorem piece {l : List UInt8} (a n : Nat) (_h : a + n ≤ l.length) : l.drop a = (l.drop a).take n ++ l.drop (a + n) := by
  have := (List.take_append_drop n (l.drop a)).symm
  rw [List.drop_drop] at this
  exact this
/-- what is read of a stream's bytes has them alone -/
structure Read (s : St) (l : List UInt8) : Prop where
  bytes : bodyB s = l
  base : s.base.length = 32
  target : s.target.length = 32
  lo : 0 ≤ s.size
  hi : s.size < 65536
  many : s.items.length < 65536
  its : ∀ y ∈ s.items, 0 ≤ y.pl ∧ y.pl < 65536 ∧ (y.dt.length = 0 ∨ y.dt.length = 256)
theorem num2 (l : List UInt8) (h : l.length = 2) : num l < 65536 := by
  have h1 := num_lt l
  rw [h] at h1
  exact h1
theorem bodyP_back {l : List UInt8} {s : St} (h : bodyP l = .ok s) : Read s l := by
  unfold bodyP at h
  split at h
  · cases h
  split at h
  · cases h
  rename_i hm
  split at h
  · cases h
  split at h
  · cases h
  rename_i h1
  split at h
  · cases h
  rename_i h73
  cases hx : itsP (num ((l.drop 71).take 2)) (l.drop 73) [] with
  | error e => rw [hx] at h; cases h
  | ok p =>
    obtain ⟨xs, r⟩ := p
    rw [hx] at h
    simp only at h
    split at h
    · rename_i hr
      injection h with h
      subst h hr
      obtain ⟨ys, e1, e2, e3, e4⟩ := itsP_back _ _ _ _ _ hx
      rw [List.nil_append] at e1
      subst e1
      have l1 : ((l.drop 5).take 2).length = 2 := by rw [List.length_take, List.length_drop]; omega
      have l2 : ((l.drop 71).take 2).length = 2 := by rw [List.length_take, List.length_drop]; omega
      have n1 := num2 _ l1
      have n2 := num2 _ l2
      refine ⟨?_, by show ((l.drop 7).take 32).length = 32; rw [List.length_take, List.length_drop]; omega, by show ((l.drop 39).take 32).length = 32; rw [List.length_take, List.length_drop]; omega, by show (0 : Int) ≤ ((num ((l.drop 5).take 2) : Nat) : Int); omega, by show ((num ((l.drop 5).take 2) : Nat) : Int) < 65536; omega, by show xs.length < 65536; omega, e4⟩
      unfold bodyB headB
      show (markB ++ ([1] ++ (enc (((num ((l.drop 5).take 2) : Nat) : Int)).toNat 2 ++ ((l.drop 7).take 32 ++ ((l.drop 39).take 32 ++ enc xs.length 2))))) ++ itsB xs = l
      rw [Int.toNat_natCast, enc_num _ 2 l1, e2, enc_num _ 2 l2]
      have hm' : l.take 4 = markB := Decidable.not_not.1 hm
      have h1' : num ((l.drop 4).take 1) = 1 := Decidable.not_not.1 h1
      have e0 := piece (l := l) 0 4 (by omega)
      have p1 := take_one (l := l.drop 4) (b := 1) (by rw [List.length_drop]; omega) h1'
      rw [List.drop_drop] at p1
      have p2 := piece (l := l) 5 2 (by omega)
      have p3 := piece (l := l) 7 32 (by omega)
      have p4 := piece (l := l) 39 32 (by omega)
      have p5 := piece (l := l) 71 2 (by omega)
      rw [List.append_nil] at e3
      rw [List.drop_zero, Nat.zero_add, hm'] at e0
      rw [e3]
      conv => rhs; rw [e0, p1, p2, p3, p4, p5]
      simp [List.append_assoc]
    · cases h
theorem allP_back {t : List UInt8} {s : St} (h : allP t = .ok s) : allB s = t ∧ Read s (t.take (t.length - 4)) ∧ chk s = 0 ∧ 4 ≤ t.length := by
  unfold allP at h
  split at h
  · cases h
  rename_i h4
  split at h
  · cases h
  rename_i hc
  cases hx : bodyP (t.take (t.length - 4)) with
  | error e => rw [hx] at h; cases h
  | ok s' =>
    rw [hx] at h
    simp only at h
    split at h
    · rename_i hk
      injection h with h
      subst h
      have hr := bodyP_back hx
      refine ⟨?_, hr, hk, by omega⟩
      unfold allB
      rw [hr.bytes, ← Decidable.not_not.1 hc, enc_num _ 4 (by rw [List.length_drop]; omega)]
      exact List.take_append_drop _ _
    · cases h
theorem allP_awake : allP [97, 98, 99] = .error 2 := by unfold allP; rw [if_pos (by decide)]
end Go.Proofs.YtbohpffigmllkaaGreatDoor
