/-
  A text that node.Parse takes is the bytes of the node that it says.
-/
import Derived.Test.YtheccbnejamhlaaDoorNodeBacks
namespace Go.Proofs.YtheccbnejamhlaaDoor
open Go.RowKit

theorem enc_num (l : List UInt8) (n : Nat) (h : l.length = n) : enc (num l) n = l := by
  refine num_inj (by rw [enc_len, h]) ?_
  rw [num_enc]
  have := num_lt l
  rw [h] at this
  exact Nat.mod_eq_of_lt this
theorem kids_back (t : ByteArray) (h : t.data.toList.length = 60) : ∀ k, k ≤ 8 → kidsT (kidsTo t 8) k = (t.data.toList.drop 2).take (2 * k)
  | 0, _ => rfl
  | k + 1, hk => by
    unfold kidsT
    rw [kids_back t h k (by omega)]
    have e : kidsTo t 8 k = saysKid t k := by unfold kidsTo; rw [if_pos (by omega)]
    rw [e]
    unfold saysKid
    rw [ext_end, enc_num _ 2 (by rw [List.length_take, List.length_drop]; omega), show 2 * (k + 1) = 2 * k + 2 by omega, List.take_add, List.drop_drop]
theorem text_cut (L : List UInt8) : L = L.take 1 ++ ((L.drop 1).take 1 ++ ((L.drop 2).take 16 ++ ((L.drop 18).take 32 ++ L.drop 50))) := by
  have e1 := List.take_append_drop 32 (L.drop 18)
  rw [List.drop_drop] at e1
  have e2 := List.take_append_drop 16 (L.drop 2)
  rw [List.drop_drop] at e2
  have e3 := List.take_append_drop 1 (L.drop 1)
  rw [List.drop_drop] at e3
  rw [e1, e2, e3, List.take_append_drop]
theorem own_back (t : ByteArray) (lv : Int) (h : parseE t lv = 0) : ((saysLevel (ahead t) : Nat) : Int) = lv ∧ sealS (nodeT (saysLevel (ahead t)) (kidsTo (ahead t) 8) (byteS (ahead t))) = t := by
  unfold parseE at h
  by_cases h1 : t.size < 64
  · rw [if_pos h1] at h; exact absurd h (by decide)
  rw [if_neg h1] at h
  by_cases h2 : saysSum t = C.Crc.sum (ahead t).data.toList
  case neg => rw [if_pos h2] at h; exact absurd h (by decide)
  rw [if_neg (not_not_intro h2)] at h
  by_cases h3 : 64 < t.size
  · rw [if_pos h3] at h; exact absurd h (by decide)
  rw [if_neg h3] at h
  by_cases h4 : (ahead t).data.toList.take 1 = [78]
  case neg => rw [if_pos h4] at h; exact absurd h (by decide)
  rw [if_neg (not_not_intro h4)] at h
  by_cases h5 : ((saysLevel (ahead t) : Nat) : Int) = lv
  case neg => rw [if_pos h5] at h; exact absurd h (by decide)
  rw [if_neg (not_not_intro h5)] at h
  by_cases h6 : zeroB ((ahead t).data.toList.drop 50) = true
  case neg => rw [if_neg h6] at h; exact absurd h (by decide)
  refine ⟨h5, ?_⟩
  have h64 : t.size = 64 := by omega
  have hl := list_len t
  have hz := says_text t (by omega)
  have hal : (ahead t).data.toList.length = 60 := by rw [ahead_list, List.length_take]; omega
  have ht32 : txt (byteS (ahead t)) = ((ahead t).data.toList.drop 18).take 32 := by
    have e := congrArg (fun x : ByteArray => x.data.toList) hz
    simp only [ext_list] at e
    rw [ahead_list, List.drop_take, List.take_take]
    exact e.symm
  have hlev : enc (saysLevel (ahead t)) 1 = ((ahead t).data.toList.drop 1).take 1 := by
    unfold saysLevel
    rw [ext_end]
    exact enc_num _ 1 (by rw [List.length_take, List.length_drop]; omega)
  have hzs : (ahead t).data.toList.drop 50 = List.replicate 10 0 := by
    rw [List.eq_replicate_iff]
    refine ⟨by rw [List.length_drop]; omega, fun b hb => ?_⟩
    unfold zeroB at h6
    exact eq_of_beq (List.all_eq_true.1 h6 b hb)
  have hP : padTo (nodeT (saysLevel (ahead t)) (kidsTo (ahead t) 8) (byteS (ahead t))) = (ahead t).data.toList := by
    rw [nodeP, hlev, kids_back (ahead t) hal 8 (Nat.le_refl _), ht32, ← hzs, ← h4]
    exact (text_cut _).symm
  apply ByteArray.ext
  apply Array.toList_inj.mp
  show sealed (nodeT (saysLevel (ahead t)) (kidsTo (ahead t) 8) (byteS (ahead t))) = t.data.toList
  unfold sealed
  rw [hP, ← h2]
  have h4' : enc (saysSum t) 4 = (t.data.toList.drop 60) := by
    unfold saysSum
    rw [ext_end, enc_num _ 4 (by rw [List.length_take, List.length_drop]; omega), List.take_of_length_le (by rw [List.length_drop]; omega)]
  rw [h4', ahead_list, List.take_append_drop]
/-- the document's Parse, of any text -/
theorem refNodeParse_any (s : ByteArray) (hs : s.size ≤ maxLen) (lv : Int) (w : World) :
    Calls Tryd.prog 24 #[.string s, .int .i64 lv] w fun e w' => RpPost w (parseE s lv) (saysKid (ahead s)) ⟨(txt (byteS (ahead s))).toArray⟩ e w' := by
  by_cases h : s.size < 64
  · refine (refParse_short s h lv w).mono ?_
    rintro e w' ⟨rfl, hb⟩
    exact RpPost.bad 2 (by decide) (by unfold parseE; rw [if_pos h]) hb
  · exact refParse_long s (by omega) hs lv w
end Go.Proofs.YtheccbnejamhlaaDoor
