/-
  A stream that may be is read again from its bytes.
-/
import Derived.Test.YtpgmgopcgoblhaaDoorStreamMath
import Derived.Test.YtpgmgopcgoblhaaDoorStreamSizes
namespace Go.Proofs.YtpgmgopcgoblhaaDoor

theorem two_ofE {l : List UInt8} (h : l.length = 2) : ∃ a b, l = [a, b] := by
  match l, h with
  | [a, b], _ => exact ⟨a, b, rfl⟩
theorem num_enc2 (n : Nat) (h : n < 65536) : num (enc n 2) = n := by
  rw [num_enc]
  exact Nat.mod_eq_of_lt h
theorem itP_itB {x : It} {r : List UInt8} (h0 : 0 ≤ x.pl) (h1 : x.pl < 65536) (hd : x.dt.length = 0 ∨ x.dt.length = 256) : itP (itB x ++ r) = .ok (x, r) := by
  obtain ⟨pl, dt⟩ := x
  dsimp only at h0 h1 hd
  obtain ⟨n, rfl⟩ : ∃ n : Nat, pl = (n : Int) := ⟨pl.toNat, by omega⟩
  obtain ⟨a, b, hE⟩ := two_ofE (enc_len n 2)
  have hn : num [a, b] = n := by rw [← hE]; exact num_enc2 n (by omega)
  cases dt with
  | nil =>
    have e : itB ⟨(n : Int), []⟩ ++ r = a :: b :: 0 :: r := by simp [itB, hE]
    rw [e]
    unfold itP
    rw [if_neg (by simp), if_neg (by simp), if_pos (by simp [num])]
    simp [hn]
  | cons c d =>
    have hd' : (c :: d).length = 256 := by
      rcases hd with h | h
      · simp at h
      · exact h
    have e : itB ⟨(n : Int), c :: d⟩ ++ r = a :: b :: 1 :: ((c :: d) ++ r) := by simp [itB, hE]
    rw [e]
    generalize c :: d = D at *
    unfold itP
    rw [if_neg (by simp), if_neg (by simp), if_neg (by simp [num]), if_pos (by simp [num]), if_neg (by simp; omega)]
    have e1 : (a :: b :: 1 :: (D ++ r)).take 2 = [a, b] := rfl
    have e2 : ((a :: b :: 1 :: (D ++ r)).drop 3).take 256 = D := by
      show (D ++ r).take 256 = D
      exact List.take_left' hd'
    have e3 : (a :: b :: 1 :: (D ++ r)).drop 259 = r := by
      show (D ++ r).drop 256 = r
      exact List.drop_left' hd'
    rw [e1, e2, e3, hn]
theorem itsP_itsB : ∀ (l acc : List It) (r : List UInt8), (∀ x ∈ l, 0 ≤ x.pl ∧ x.pl < 65536 ∧ (x.dt.length = 0 ∨ x.dt.length = 256)) → itsP l.length (itsB l ++ r) acc = .ok (acc ++ l, r)
  | [], acc, r, _ => by simp [itsP, itsB]
  | x :: l, acc, r, h => by
    obtain ⟨h0, h1, h2⟩ := h x (by simp)
    have e : itsB (x :: l) ++ r = itB x ++ (itsB l ++ r) := by simp [itsB]
    rw [e]
    show itsP (l.length + 1) _ acc = _
    unfold itsP
    rw [itP_itB h0 h1 h2]
    show itsP l.length (itsB l ++ r) (acc ++ [x]) = _
    rw [itsP_itsB l (acc ++ [x]) r (fun y hy => h y (by simp [hy]))]
    simp
theorem bodyP_bodyB {z : Nat} {base target : List UInt8} {l : List It} (hz : z < 65536) (hb : base.length = 32) (ht : target.length = 32) (hl : l.length < 65536)
    (h : ∀ x ∈ l, 0 ≤ x.pl ∧ x.pl < 65536 ∧ (x.dt.length = 0 ∨ x.dt.length = 256)) : bodyP (bodyB ⟨(z : Int), base, target, l⟩) = .ok ⟨(z : Int), base, target, l⟩ := by
  have hlen := bodyB_len (s := ⟨(z : Int), base, target, l⟩) hb ht
  have hL : bodyB ⟨(z : Int), base, target, l⟩ = markB ++ ([1] ++ (enc z 2 ++ (base ++ (target ++ (enc l.length 2 ++ itsB l))))) := by simp [bodyB, headB]
  generalize bodyB ⟨(z : Int), base, target, l⟩ = L at *
  dsimp only at hlen
  have q4 : L.take 4 = markB := by rw [hL]; exact List.take_left' rfl
  have q4d : L.drop 4 = [1] ++ (enc z 2 ++ (base ++ (target ++ (enc l.length 2 ++ itsB l)))) := by rw [hL]; exact List.drop_left' rfl
  have q5 : L.drop 5 = enc z 2 ++ (base ++ (target ++ (enc l.length 2 ++ itsB l))) := by
    rw [hL, ← List.append_assoc]; exact List.drop_left' rfl
  have q7 : L.drop 7 = base ++ (target ++ (enc l.length 2 ++ itsB l)) := by
    rw [hL, ← List.append_assoc, ← List.append_assoc]; exact List.drop_left' (by simp [enc_len, markB])
  have q39 : L.drop 39 = target ++ (enc l.length 2 ++ itsB l) := by
    rw [hL, ← List.append_assoc, ← List.append_assoc, ← List.append_assoc]; exact List.drop_left' (by simp [enc_len, markB, hb])
  have q71 : L.drop 71 = enc l.length 2 ++ itsB l := by
    rw [hL, ← List.append_assoc, ← List.append_assoc, ← List.append_assoc, ← List.append_assoc]; exact List.drop_left' (by simp [enc_len, markB, hb, ht])
  have q73 : L.drop 73 = itsB l := by
    rw [hL, ← List.append_assoc, ← List.append_assoc, ← List.append_assoc, ← List.append_assoc, ← List.append_assoc]; exact List.drop_left' (by simp [enc_len, markB, hb, ht])
  unfold bodyP
  have n1 : num ((L.drop 4).take 1) = 1 := by rw [q4d]; simp [num]
  have n2 : num ((L.drop 71).take 2) = l.length := by rw [q71, List.take_left' (enc_len _ _)]; exact num_enc2 _ hl
  have n3 : num ((L.drop 5).take 2) = z := by rw [q5, List.take_left' (enc_len _ _)]; exact num_enc2 _ hz
  have n4 : (L.drop 7).take 32 = base := by rw [q7]; exact List.take_left' hb
  have n5 : (L.drop 39).take 32 = target := by rw [q39]; exact List.take_left' ht
  have n6 := itsP_itsB l [] [] h
  rw [List.append_nil, List.nil_append] at n6
  rw [if_neg (by omega), if_neg (by rw [q4]; simp), if_neg (by omega), if_neg (by rw [n1]; simp), if_neg (by omega), n2, q73, n6]
  dsimp only
  rw [if_pos rfl, n3, n4, n5]
theorem chk_items {s : St} (h : chk s = 0) : ∀ x ∈ s.items, 0 ≤ x.pl ∧ x.pl < 65536 ∧ (x.dt.length = 0 ∨ x.dt.length = 256) := by
  obtain ⟨h1, h2, h3⟩ := chk_zero h
  unfold chk at h
  rw [if_neg (by omega)] at h
  intro x hx
  obtain ⟨h4, h5⟩ := chkIts_all s.items 0 (by omega) h x hx
  refine ⟨(h3 x hx).1, (h3 x hx).2, ?_⟩
  unfold okIt at h5
  rw [Bool.and_eq_true, Bool.or_eq_true] at h5
  rcases h5.2 with q | q
  · left
    rw [List.isEmpty_iff] at q
    rw [q]; rfl
  · right
    rw [Bool.and_eq_true] at q
    exact of_decide_eq_true q.1
theorem allP_allB {z : Nat} {base target : List UInt8} {l : List It} (hz : z < 65536) (hb : base.length = 32) (ht : target.length = 32) (hl : l.length < 65536) (h : chk ⟨(z : Int), base, target, l⟩ = 0) :
    allP (allB ⟨(z : Int), base, target, l⟩) = .ok ⟨(z : Int), base, target, l⟩ := by
  have hB := bodyP_bodyB hz hb ht hl (chk_items h)
  unfold allB
  generalize bodyB ⟨(z : Int), base, target, l⟩ = L at *
  have hlt := crc_lt L
  have e0 : (L ++ enc (C.Crc.sum L) 4).length - 4 = L.length := by rw [List.length_append, enc_len]; omega
  have e1 : (L ++ enc (C.Crc.sum L) 4).take L.length = L := List.take_left' rfl
  have e2 : (L ++ enc (C.Crc.sum L) 4).drop L.length = enc (C.Crc.sum L) 4 := List.drop_left' rfl
  have e3 : num (enc (C.Crc.sum L) 4) = C.Crc.sum L := by rw [num_enc]; exact Nat.mod_eq_of_lt hlt
  unfold allP
  rw [if_neg (by rw [List.length_append, enc_len]; omega), e0, e1, e2, e3, if_neg (by simp), hB]
  dsimp only
  rw [if_pos h]
end Go.Proofs.YtpgmgopcgoblhaaDoor
