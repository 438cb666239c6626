/-
  Supers and their sectors: which bytes tell a super, and which of two slots is read: mathematics alone.
-/
import Derived.Test.YtnkmidfdpjcdaaaSuperRef
namespace Go.Proofs.Ytnkmidfdpjcdaaa
open Go.RowKit

theorem enc_num : ∀ (n : Nat) (l : List UInt8), l.length = n → enc (num l) n = l
  | 0, l, h => by rw [List.eq_nil_of_length_eq_zero h]; rfl
  | n + 1, l, h => by
    obtain ⟨k, b, rfl⟩ : ∃ k b, l = k ++ [b] := ⟨l.dropLast, l.getLast (by intro e; subst e; cases h), (List.dropLast_concat_getLast _).symm⟩
    have hk : k.length = n := by simpa using h
    have hb := b.toNat_lt
    rw [num_snoc, enc_succ, show (num k * 256 + b.toNat) / 256 = num k by omega, enc_num n k hk]
    congr 2
    apply UInt8.toNat_inj.1
    rw [UInt8.toNat_ofNat']
    omega
theorem mid_part (A T R : List UInt8) (i c : Nat) (h : i + c ≤ T.length) : ((A ++ (T ++ R)).drop (A.length + i)).take c = (T.drop i).take c := by
  rw [← List.drop_drop, List.drop_left, List.drop_append_of_le_length (by omega), List.take_append_of_le_length (by rw [List.length_drop]; omega)]
theorem whole_part (A T R : List UInt8) (a c : Nat) (ha : A.length = a) (hc : T.length = c) : ((A ++ (T ++ R)).drop a).take c = T := by
  rw [List.drop_left' ha, List.take_left' hc]
theorem of_text (s : Sup) (hs : s.fits) : Sup.of s.ep s.text = s := by
  obtain ⟨ep, j, b, h, nx⟩ := s
  have e1 : ((Sup.text ⟨ep, j, b, h, nx⟩).drop 4).take 2 = enc j 2 := whole_part [83, 66, 65, 84] (enc j 2) (enc b 2 ++ (enc h 2 ++ enc nx 4)) 4 2 rfl (enc_len _ _)
  have e2 : ((Sup.text ⟨ep, j, b, h, nx⟩).drop 6).take 2 = enc b 2 := by
    have := whole_part ([83, 66, 65, 84] ++ enc j 2) (enc b 2) (enc h 2 ++ enc nx 4) 6 2 (by simp [enc_len]) (enc_len _ _)
    rw [List.append_assoc] at this
    exact this
  have e3 : ((Sup.text ⟨ep, j, b, h, nx⟩).drop 8).take 2 = enc h 2 := by
    have := whole_part ([83, 66, 65, 84] ++ enc j 2 ++ enc b 2) (enc h 2) (enc nx 4) 8 2 (by simp [enc_len]) (enc_len _ _)
    rw [List.append_assoc, List.append_assoc] at this
    exact this
  have e4 : ((Sup.text ⟨ep, j, b, h, nx⟩).drop 10).take 4 = enc nx 4 := by
    have := whole_part ([83, 66, 65, 84] ++ enc j 2 ++ enc b 2 ++ enc h 2) (enc nx 4) [] 10 4 (by simp [enc_len]) (enc_len _ _)
    rw [List.append_nil, List.append_assoc, List.append_assoc, List.append_assoc] at this
    exact this
  unfold Sup.of
  have h1 := hs.j
  have h2 := hs.b
  have h3 := hs.h
  have h4 := hs.nx
  rw [e1, e2, e3, e4, num_enc, num_enc, num_enc, num_enc]
  show (⟨ep, j % 256 ^ 2, b % 256 ^ 2, h % 256 ^ 2, nx % 256 ^ 4⟩ : Sup) = _
  dsimp only at h1 h2 h3 h4
  rw [Nat.mod_eq_of_lt (a := j) (by omega), Nat.mod_eq_of_lt (a := b) (by omega), Nat.mod_eq_of_lt (a := h) (by omega), Nat.mod_eq_of_lt (a := nx) (by omega)]
theorem text_of (ep : Nat) (T : List UInt8) (hT : T.length = 14) (hm : T.take 4 = [83, 66, 65, 84]) : (Sup.of ep T).text = T := by
  unfold Sup.text Sup.of
  rw [enc_num 2 _ (by rw [List.length_take, List.length_drop]; omega), enc_num 2 _ (by rw [List.length_take, List.length_drop]; omega), enc_num 2 _ (by rw [List.length_take, List.length_drop]; omega), enc_num 4 _ (by rw [List.length_take, List.length_drop]; omega), ← hm]
  have t1 : (T.drop 8).take 2 ++ (T.drop 10).take 4 = T.drop 8 := by
    rw [List.take_of_length_le (l := T.drop 10) (by rw [List.length_drop]; omega), ← List.drop_drop (i := 2) (j := 8) (l := T)]
    exact List.take_append_drop 2 _
  have t2 : (T.drop 6).take 2 ++ T.drop 8 = T.drop 6 := by
    rw [← List.drop_drop (i := 2) (j := 6) (l := T)]
    exact List.take_append_drop 2 _
  have t3 : (T.drop 4).take 2 ++ T.drop 6 = T.drop 4 := by
    rw [← List.drop_drop (i := 2) (j := 4) (l := T)]
    exact List.take_append_drop 2 _
  rw [t1, t2, t3]
  exact List.take_append_drop 4 T
theorem isSup_text (s : Sup) : isSup ⟨s.text.toArray⟩ := by
  refine ⟨s.text_size, ?_⟩
  apply ByteArray.ext
  apply Array.toList_inj.mp
  rw [ByteArray.data_extract, Array.toList_extract, List.extract_eq_take_drop, List.drop_zero]
  show List.take 4 s.text = _
  unfold Sup.text
  exact List.take_left' rfl
theorem hasSup_frame (s : Sup) (hs : s.fits) : hasSup s.frame (s.ep % 2) ∧ supIn s.frame = s := by
  have ht : (⟨s.text.toArray⟩ : ByteArray).size ≤ 47 := by rw [s.text_size]; decide
  obtain ⟨h1, h2⟩ := take4_frame s.ep 0 ⟨s.text.toArray⟩ hs.ep (by decide)
  have he : epIn s.frame = s.ep := h1
  refine ⟨⟨h2, by rw [he], by rw [he]; exact isFrame_own s.ep 0 _ ht, ?_⟩, ?_⟩
  · show isSup (textIn (mkFrame _ _ _))
    rw [textIn_frame _ _ _ ht]
    exact isSup_text s
  · unfold supIn
    rw [he]
    show Sup.of s.ep (textIn (mkFrame s.ep 0 _)).data.toList = s
    rw [textIn_frame _ _ _ ht]
    exact of_text s hs
/-- what the numbers in a sector are, be it one of a super's or not -/
def refOf (S : ByteArray) : Sup := ⟨num (S.data.toList.take 4), num ((S.data.toList.drop 13).take 2), num ((S.data.toList.drop 15).take 2), num ((S.data.toList.drop 17).take 2), num ((S.data.toList.drop 19).take 4)⟩
theorem refOf_fits (S : ByteArray) : (refOf S).fits := ⟨num_u32 _, num2_lt _, num2_lt _, num2_lt _, num_u32 _⟩
theorem frame_of_has {S : ByteArray} {k : Nat} (h : hasSup S k) : (supIn S).frame = S ∧ refOf S = supIn S := by
  obtain ⟨h1, h2, h3, h4, h5⟩ := h
  have hT : (textIn S).data.toList.length = 14 := by simpa using h4
  have hm : (textIn S).data.toList.take 4 = [83, 66, 65, 84] := by
    have := congrArg (fun x : ByteArray => x.data.toList) h5
    simpa [ByteArray.data_extract, Array.toList_extract, List.extract_eq_take_drop] using this
  have e : S = mkFrame (epIn S) 0 (textIn S) := h3.2.2
  have e1 : (supIn S).text = (textIn S).data.toList := text_of _ _ hT hm
  have e2 : (supIn S).frame = S := by
    unfold Sup.frame
    rw [e1]
    exact e.symm
  refine ⟨e2, ?_⟩
  have eL : S.data.toList = (stampOf (epIn S) 0 ++ enc (textIn S).data.toList.length 1) ++ ((textIn S).data.toList ++ (List.replicate (47 - (textIn S).data.toList.length) 0 ++ stampOf (epIn S) 0)) := by
    have := congrArg (fun x : ByteArray => x.data.toList) e
    rw [mkFrame_list] at this
    rw [List.append_assoc]
    exact this
  have hA : (stampOf (epIn S) 0 ++ enc (textIn S).data.toList.length 1).length = 9 := by rw [List.length_append, stampOf_len, enc_len]
  have hp : ∀ i c, i + c ≤ 14 → (S.data.toList.drop (9 + i)).take c = ((textIn S).data.toList.drop i).take c := fun i c hic => by
    have := mid_part (stampOf (epIn S) 0 ++ enc (textIn S).data.toList.length 1) (textIn S).data.toList (List.replicate (47 - (textIn S).data.toList.length) 0 ++ stampOf (epIn S) 0) i c (by omega)
    rw [hA, ← eL] at this
    exact this
  unfold refOf supIn Sup.of epIn
  rw [← hp 4 2 (by decide), ← hp 6 2 (by decide), ← hp 8 2 (by decide), ← hp 10 4 (by decide)]
theorem has_of_frame {S : ByteArray} (h : (refOf S).frame = S) : hasSup S ((refOf S).ep % 2) ∧ supIn S = refOf S := by
  have := hasSup_frame (refOf S) (refOf_fits S)
  rw [h] at this
  exact this
/-- does a slot's sector tell a super that may be? -/
def refOk (S : ByteArray) (k n : Nat) : Prop := (refOf S).ep % 2 = k ∧ (refOf S).frame = S ∧ (refOf S).check n = 0
instance refOkDec (S : ByteArray) (k n : Nat) : Decidable (refOk S k n) := by unfold refOk; infer_instance
theorem ok_iff (S : ByteArray) (k n : Nat) : refOk S k n ↔ hasSup S k ∧ (supIn S).check n = 0 := by
  constructor
  · rintro ⟨h1, h2, h3⟩
    obtain ⟨a, b⟩ := has_of_frame h2
    rw [h1] at a
    exact ⟨a, by rw [b]; exact h3⟩
  · rintro ⟨h1, h2⟩
    obtain ⟨a, b⟩ := frame_of_has h1
    refine ⟨?_, by rw [b]; exact a, by rw [b]; exact h2⟩
    rw [b]
    exact h1.2.1
theorem ok_sup {S : ByteArray} {k n : Nat} (h : refOk S k n) : supIn S = refOf S := (has_of_frame h.2.1).2
theorem check_ep {s : Sup} {n : Nat} (h : s.check n = 0) : ¬ s.ep = 0 := by
  have := (check_room s n h).2
  unfold Sup.inb at this
  have := of_decide_eq_true this
  omega
theorem ok_ep {S : ByteArray} {k n : Nat} (h : refOk S k n) : ¬ (refOf S).ep = 0 := check_ep h.2.2
/-- the super that is read off two slots -/
def refRd (Z O : ByteArray) (n : Nat) : Sup := if refOk Z 0 n ∧ (¬ refOk O 1 n ∨ (refOf O).ep < (refOf Z).ep) then refOf Z else if refOk O 1 n then refOf O else Sup.none
def refIs (Z O : ByteArray) (n : Nat) : Bool := decide (refOk Z 0 n ∨ refOk O 1 n)
theorem better_iff (m : DiskM) (k : Nat) (l : Sup) : better m k l ↔ refOk (sectOf m k) k m.n ∧ l.ep < (refOf (sectOf m k)).ep := by
  unfold better
  rw [ok_iff]
  constructor
  · rintro ⟨a, b, c⟩
    have := ok_sup ((ok_iff _ _ _).2 ⟨a, b⟩)
    exact ⟨⟨a, b⟩, by rw [← this]; exact c⟩
  · rintro ⟨⟨a, b⟩, c⟩
    have := ok_sup ((ok_iff _ _ _).2 ⟨a, b⟩)
    exact ⟨a, b, by rw [this]; exact c⟩
theorem best_succ (m : DiskM) (k : Nat) : best m (k + 1) = if refOk (sectOf m k) k m.n ∧ (best m k).ep < (refOf (sectOf m k)).ep then refOf (sectOf m k) else best m k := by
  show (if better m k (best m k) then supIn (sectOf m k) else best m k) = _
  by_cases h : better m k (best m k)
  · have h' := (better_iff _ _ _).1 h
    rw [if_pos h, if_pos h']
    exact ok_sup h'.1
  · rw [if_neg h, if_neg fun e => h ((better_iff _ _ _).2 e)]
theorem last_ref (m : DiskM) (h2 : 2 ≤ m.n) : lastOf m = refRd (sectOf m 0) (sectOf m 1) m.n := by
  unfold lastOf
  rw [Nat.min_eq_left h2, best_succ m 1, best_succ m 0]
  have e0 : (best m 0).ep = 0 := rfl
  rw [e0]
  have z : best m 0 = Sup.none := rfl
  rw [z]
  unfold refRd
  by_cases hz : refOk (sectOf m 0) 0 m.n
  · have hz0 := ok_ep hz
    have hz2 := hz.1
    rw [if_pos (c := refOk (sectOf m 0) 0 m.n ∧ 0 < (refOf (sectOf m 0)).ep) ⟨hz, by omega⟩]
    by_cases ho : refOk (sectOf m 1) 1 m.n
    · have ho2 := ho.1
      by_cases hlt : (refOf (sectOf m 1)).ep < (refOf (sectOf m 0)).ep
      · rw [if_neg fun e => by have := e.2; omega, if_pos ⟨hz, Or.inr hlt⟩]
      · rw [if_pos ⟨ho, by omega⟩, if_neg fun e => by rcases e.2 with x | x <;> first | exact x ho | exact hlt x]
        rw [if_pos ho]
    · rw [if_neg fun e => ho e.1, if_pos ⟨hz, Or.inl ho⟩]
  · rw [if_neg (c := refOk (sectOf m 0) 0 m.n ∧ 0 < (refOf (sectOf m 0)).ep) fun e => hz e.1]
    rw [if_neg (c := refOk (sectOf m 0) 0 m.n ∧ _) fun e => hz e.1]
    by_cases ho : refOk (sectOf m 1) 1 m.n
    · have h0 := ok_ep ho
      rw [if_pos ⟨ho, by show (0 : Nat) < _; omega⟩, if_pos ho]
    · rw [if_neg fun e => ho e.1, if_neg ho]
theorem rd_none {Z O : ByteArray} {n : Nat} (h : refIs Z O n = false) : refRd Z O n = Sup.none := by
  have h := of_decide_eq_false h
  unfold refRd
  rw [if_neg fun e => h (Or.inl e.1), if_neg fun e => h (Or.inr e)]
theorem rd_some {Z O : ByteArray} {n : Nat} (h : refIs Z O n = true) : ¬ (refRd Z O n).ep = 0 ∧ (refRd Z O n).fits := by
  have h := of_decide_eq_true h
  unfold refRd
  split
  · rename_i e
    exact ⟨ok_ep e.1, refOf_fits _⟩
  · rename_i e
    by_cases ho : refOk O 1 n
    · rw [if_pos ho]
      exact ⟨ok_ep ho, refOf_fits _⟩
    · rcases h with h | h
      · exact absurd ⟨h, Or.inl ho⟩ e
      · exact absurd h ho
theorem best_none (m : DiskM) (h : ∀ k, k < 2 → ¬ refOk (sectOf m k) k m.n) : ∀ k, k ≤ 2 → best m k = Sup.none
  | 0, _ => rfl
  | k + 1, hk => by
    rw [best_succ, if_neg fun e => h k (by omega) e.1]
    exact best_none m h k (by omega)
theorem last_none (m : DiskM) (h : ∀ k, k < 2 → ¬ refOk (sectOf m k) k m.n) : lastOf m = Sup.none := best_none m h _ (Nat.min_le_left _ _)
theorem blank_ref {S : ByteArray} (h : S.data.toList = List.replicate 64 0) (k n : Nat) : ¬ refOk S k n := fun e => by
  refine ok_ep e ?_
  show num (S.data.toList.take 4) = 0
  rw [h]
  rfl
theorem sectOf_blank (d bs bt n k : Nat) : (sectOf (newDisk d bs bt n) k).data.toList = List.replicate 64 0 := by
  show sec (fun _ => 0) k = _
  unfold sec
  exact List.map_const'.trans (by rw [List.length_range])
theorem txtf_list (s : ByteArray) (hs : s.size = 64) : (List.range 64).map (fun j => txtf s j) = s.data.toList := by
  have hl : s.data.toList.length = 64 := by simpa using hs
  apply List.ext_getElem
  · simp [hl]
  · intro i h1 h2
    simp only [List.getElem_map, List.getElem_range, txtf]
    rw [List.getD_eq_getElem?_getD, List.getElem?_eq_getElem h2]
    rfl
theorem sectOf_wrote (m : DiskM) (k : Nat) (s : ByteArray) (hs : s.size = 64) : sectOf (m.wrote k (txtf s)) k = s := by
  apply ByteArray.ext
  apply Array.toList_inj.mp
  rw [← txtf_list s hs]
  show sec (m.wrote k (txtf s)).T k = _
  unfold sec DiskM.wrote
  apply List.map_congr_left
  intro j hj
  have hj' : j < 64 := by simpa using hj
  show (if k * 64 ≤ k * 64 + j ∧ k * 64 + j < k * 64 + 64 then txtf s (k * 64 + j - k * 64) else _) = _
  rw [if_pos (by omega)]
  congr 1
  omega
theorem sectOf_other (m : DiskM) (k : Nat) (g : Nat → UInt8) (i : Nat) (h : ¬ i = k) : sectOf (m.wrote k g) i = sectOf m i := by
  unfold sectOf
  rw [(wrote_in m k g i h).sec]
theorem frame_ok' (s : Sup) (hs : s.fits) (n : Nat) (hc : s.check n = 0) : refOk s.frame (s.ep % 2) n ∧ refOf s.frame = s := by
  obtain ⟨a, b⟩ := hasSup_frame s hs
  have h := (ok_iff s.frame (s.ep % 2) n).2 ⟨a, by rw [b]; exact hc⟩
  exact ⟨h, by rw [← ok_sup h, b]⟩
/-- one slot tells a super, the other one doesn't -/
theorem last_one (m : DiskM) (h2 : 2 ≤ m.n) (j : Nat) (hj : j < 2) (h : refOk (sectOf m j) j m.n) (ho : ∀ k, k < 2 → ¬ k = j → ¬ refOk (sectOf m k) k m.n) : lastOf m = refOf (sectOf m j) := by
  rw [last_ref m h2]
  unfold refRd
  by_cases e : j = 0
  · subst e
    rw [if_pos ⟨h, Or.inl (ho 1 (by decide) (by decide))⟩]
  · obtain rfl : j = 1 := by omega
    rw [if_neg fun x => ho 0 (by decide) (by decide) x.1, if_pos h]
theorem last_wrote (d bs bt n : Nat) (s : Sup) (hs : s.fits) (hc : s.check n = 0) : lastOf ((newDisk d bs bt n).wrote (s.ep % 2) (txtf s.frame)) = s := by
  have h2 : 2 ≤ n := by have := check_room s n hc; omega
  obtain ⟨a, b⟩ := frame_ok' s hs n hc
  have e := sectOf_wrote (newDisk d bs bt n) (s.ep % 2) s.frame s.frame_size
  have := last_one ((newDisk d bs bt n).wrote (s.ep % 2) (txtf s.frame)) h2 (s.ep % 2) (Nat.mod_lt _ (by decide)) (by rw [e]; exact a) fun k _ hk => by
    rw [sectOf_other _ _ _ _ hk]
    exact blank_ref (sectOf_blank d bs bt n k) _ _
  rw [this, e, b]
end Go.Proofs.Ytnkmidfdpjcdaaa
