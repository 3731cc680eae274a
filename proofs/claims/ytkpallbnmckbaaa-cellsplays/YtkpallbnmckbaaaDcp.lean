/- The document's Get, Scan and Trim, plain. -/
import Derived.Test.YtkpallbnmckbaaaDca
import Derived.Test.YtkpallbnmckbaaaSci
namespace Go.Proofs.Ytkpallbnmckbaaa
open Go.RowKit
theorem dG_some {l : List C} (hs : Srt l) (key : ByteArray) (t : Int) (x : C) : dG l key t = some x ↔ Sel l key t x ∧ x.d = false := by
  have hf : ∀ y, fndP l key t = some y → Sel l key t y := by
    intro y hy
    unfold fndP at hy
    obtain ⟨hp, i, hi, rfl, hb⟩ := List.find?_eq_some_iff_getElem.1 hy
    simp only [Bool.and_eq_true, decide_eq_true_eq] at hp
    refine ⟨List.getElem_mem hi, hp.1, hp.2, fun z hz e1 e2 => ?_⟩
    obtain ⟨j, hj, rfl⟩ := List.mem_iff_getElem.1 hz
    by_cases e : j < i
    · have := hb j e
      simp [e1, e2] at this
    · by_cases e' : j = i
      · subst e'; exact Int.le_refl _
      · have h1 := (List.pairwise_iff_getElem.1 hs) i j hi hj (by omega)
        have h2 := (cmp_same (hp.1.trans e1.symm)).1 h1
        omega
  have hn : fndP l key t = none → ∀ z ∈ l, z.k = key → ¬ z.t ≤ t := by
    intro h z hz e1 e2
    unfold fndP at h
    have := List.find?_eq_none.1 h z hz
    simp [e1, e2] at this
  constructor
  · intro h
    unfold dG at h
    cases hq : fndP l key t with
    | none => rw [hq] at h; cases h
    | some y =>
      rw [hq] at h
      by_cases e : y.d = true
      · simp [e] at h
      · simp only [e] at h
        obtain rfl : y = x := by simpa using h
        exact ⟨hf _ hq, by simpa using e⟩
  · rintro ⟨h, hd⟩
    unfold dG
    cases hq : fndP l key t with
    | none => exact absurd h.2.2.1 (hn hq x h.1 h.2.1)
    | some y =>
      have hy := hf _ hq
      have e1 : y.t = x.t := by
        have a := hy.2.2.2 x h.1 h.2.1 h.2.2.1
        have b := h.2.2.2 y hy.1 hy.2.1 hy.2.2.1
        omega
      have : y = x := hs.inj hy.1 h.1 ((cmpC_zero _ _).2 ⟨hy.2.1.trans h.2.1.symm, e1⟩)
      subst this
      simp [hd]
theorem dG_get {l : List C} (hs : Srt l) (key : ByteArray) (t : Int) : dG l key t = getP l key t := by
  apply Option.ext
  intro x
  rw [dG_some hs, getP_sel hs]
/-- What the document's Scan makes of r, where a stands ahead. -/
def skp (a b : ByteArray) (pre : List C) (x : C) : Bool := Op.bytesLess x.k.data.toList a.data.toList || past b x.k || (match pre.getLast? with | none => false | some z => decide (z.k = x.k))
def dS (a b : ByteArray) (t : Int) : List C → List C → List C
  | _, [] => []
  | pre, x :: r => (if skp a b pre x = true then [] else (dG (x :: r) x.k t).toList) ++ dS a b t (pre ++ [x]) r
/-- What the document's Trim makes of r: whether one was met. -/
def metA (below : Int) (pre : List C) (x : C) : Bool := dead below pre x
end Go.Proofs.Ytkpallbnmckbaaa
