/- Rising, plain: what is put in its place, and what is moved up. -/
import Derived.Test.YtomnajoflcjnfaaDoorTrmE
namespace Go.Proofs.YtomnajoflcjnfaaDoor
open Go.RowKit
theorem ris_put {out : List (List UInt8)} {x : List UInt8} {k : Nat} (hk : k ≤ out.length) (hr : ris out) (h1 : ∀ j (hj : j < out.length), k ≤ j → x < out[j]) (h0 : ∀ j (hj : j < out.length), j < k → out[j] < x) : ris (out.take k ++ x :: out.drop k) := by
  refine List.pairwise_append.2 ⟨List.Pairwise.sublist (List.take_sublist _ _) hr, List.pairwise_cons.2 ⟨fun y hy => ?_, List.Pairwise.sublist (List.drop_sublist _ _) hr⟩, fun a ha b hb => ?_⟩
  · obtain ⟨j, hj, e⟩ := List.mem_iff_getElem.1 hy
    rw [List.getElem_drop] at e
    rw [← e]
    exact h1 _ _ (by omega)
  · obtain ⟨i, hi, e⟩ := List.mem_iff_getElem.1 ha
    rw [List.getElem_take] at e
    have hi' : i < k := by rw [List.length_take] at hi; omega
    have hil : i < out.length := by omega
    rcases List.mem_cons.1 hb with rfl | hb
    · rw [← e]; exact h0 i hil hi'
    · obtain ⟨j, hj, e2⟩ := List.mem_iff_getElem.1 hb
      rw [List.getElem_drop] at e2
      rw [← e, ← e2]
      exact List.pairwise_iff_getElem.1 hr i (k + j) hil (by rw [List.length_drop] at hj; omega) (by omega)
theorem mem_put {out : List (List UInt8)} {x : List UInt8} {k : Nat} (y : List UInt8) : y ∈ out.take k ++ x :: out.drop k ↔ y ∈ out ∨ y = x := by
  have h : y ∈ out ↔ y ∈ out.take k ∨ y ∈ out.drop k := by rw [← List.mem_append, List.take_append_drop]
  rw [List.mem_append, List.mem_cons, h]
  constructor
  · rintro (h | h | h)
    · exact Or.inl (Or.inl h)
    · exact Or.inr h
    · exact Or.inl (Or.inr h)
  · rintro ((h | h) | h)
    · exact Or.inl h
    · exact Or.inr (Or.inr h)
    · exact Or.inr (Or.inl h)
/-- The row while its end is moved up. -/
def shf (out : List (List UInt8)) (j : Nat) : List (List UInt8) := (out ++ [[]]).take (j + 1) ++ out.drop j
theorem shf_len {out : List (List UInt8)} {j : Nat} (hj : j ≤ out.length) : (shf out j).length = out.length + 1 := by
  unfold shf; simp; omega
theorem shf_start (out : List (List UInt8)) : shf out out.length = out ++ [[]] := by
  unfold shf; simp [List.take_of_length_le]
theorem shf_at {out : List (List UInt8)} {j : Nat} (hj : j < out.length) : (shf out (j + 1))[j]? = some out[j] := by
  unfold shf
  rw [List.getElem?_append_left (by simp; omega), List.getElem?_take_of_lt (by omega), List.getElem?_append_left hj]
  exact List.getElem?_eq_getElem hj
theorem shf_step {out : List (List UInt8)} {j : Nat} (hj : j < out.length) : (shf out (j + 1)).set (j + 1) out[j] = shf out j := by
  unfold shf
  rw [List.set_append_left _ _ (by simp; omega)]
  have e1 : ((out ++ [[]]).take (j + 1 + 1)).set (j + 1) out[j] = (out ++ [[]]).take (j + 1) ++ [out[j]] := by
    apply List.ext_getElem?
    intro i
    have hm : ((out ++ [[]]).take (j + 1)).length = j + 1 := by simp; omega
    rw [List.getElem?_set, List.getElem?_append, hm]
    by_cases h1 : j + 1 = i
    · subst h1
      rw [if_pos rfl, if_pos (by simp; omega), if_neg (by omega)]
      simp
    · rw [if_neg h1]
      by_cases h2 : i < j + 1
      · rw [if_pos h2, List.getElem?_take_of_lt (by omega), List.getElem?_take_of_lt h2]
      · rw [if_neg h2, List.getElem?_eq_none (by simp; omega), List.getElem?_eq_none (by simp; omega)]
  rw [e1, List.append_assoc]
  congr 1
  rw [List.drop_eq_getElem_cons hj]
  rfl
theorem shf_end {out : List (List UInt8)} {k : Nat} (hk : k ≤ out.length) (x : List UInt8) : (shf out k).set k x = out.take k ++ x :: out.drop k := by
  unfold shf
  rw [List.set_append_left _ _ (by simp; omega)]
  have e1 : ((out ++ [[]]).take (k + 1)).set k x = out.take k ++ [x] := by
    apply List.ext_getElem?
    intro i
    have hm : (out.take k).length = k := by simp; omega
    rw [List.getElem?_set, List.getElem?_append, hm]
    by_cases h1 : k = i
    · subst h1
      rw [if_pos rfl, if_pos (by simp; omega), if_neg (by omega)]
      simp
    · rw [if_neg h1]
      by_cases h2 : i < k
      · rw [if_pos h2, List.getElem?_take_of_lt (by omega), List.getElem?_take_of_lt h2, List.getElem?_append_left (by omega)]
      · rw [if_neg h2, List.getElem?_eq_none (by simp; omega), List.getElem?_eq_none (by simp; omega)]
  rw [e1, List.append_assoc]
  rfl
end Go.Proofs.YtomnajoflcjnfaaDoor
