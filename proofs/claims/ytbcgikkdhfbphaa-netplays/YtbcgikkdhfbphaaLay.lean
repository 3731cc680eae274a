/- One message more. -/
import Derived.Test.YtbcgikkdhfbphaaPek
import Derived.Deep.RegionLaw
namespace Go.Proofs.Ytbcgikkdhfbphaa
open Go.RowKit Go.Maps
/-- What becomes of a net whose link's list is another one: by the worlds' blocks. -/
theorem Cn.relink {w w3 w4 : World} {p bm cm bl n m : Nat} {f : Int × Int → Option Value} {s : PN} {M : Nat → Prop} (h : Cn w p bm cm bl n f s M) (hlt : ∀ i, M i → i < w.heap.size) (x : Int × Int) (L' : List Pk) (r : Option Value)
    (hch : Ch (fun i => i = bl ∨ ((f x).getD (.slice none 0 0)).ownBlock = some i) w w3)
    (hmg : Mg 86 lk w3 bl m (upd f x r))
    (hq : ∀ y, y ≠ x → qs L' y.1 y.2 = qs s.L y.1 y.2)
    (hr : (r = none ∧ qs L' x.1 x.2 = []) ∨ ∃ g off cap, r = some (.slice (some ⟨g, off, none⟩) (qs L' x.1 x.2).length cap) ∧ SR w3 g off cap (qs L' x.1 x.2) ∧ qs L' x.1 x.2 ≠ [] ∧ (((f x).getD (.slice none 0 0)).ownBlock = some g ∨ w.heap.size ≤ g))
    (h4 : w4 = w3.setCell ⟨p, 2, none⟩ (.int .i64 L'.length)) :
    ∃ M', Cn w4 p bm cm bl m (upd f x r) ⟨s.ms, L'⟩ M' ∧ (∀ i, M' i → M i ∨ w.heap.size ≤ i) ∧ (∀ i, M' i → i < w4.heap.size) ∧ (∀ i, M i → M' i) ∧ Ch M w w4 := by
  have hVM : ∀ i, ((f x).getD (.slice none 0 0)).ownBlock = some i → M i ∧ ∃ c, w.heap[i]? = some (.cells c 9) := by
    intro i hi
    cases hf : f x with
    | none => rw [hf] at hi; cases hi
    | some v =>
      rw [hf] at hi
      obtain ⟨g, off, cap, rfl, q1, q2, q3⟩ := h.yes x v hf
      cases hi
      obtain ⟨c, q1, _⟩ := q1
      exact ⟨q3, c, q1⟩
  obtain ⟨cur, hr0, _⟩ := h.mr
  have hpc : ∀ i c, w.heap[i]? = some (.cells c 9) → p ≠ i ∧ bm ≠ i := fun i c hc => ⟨fun e => (by have := h.row; rw [e, hc] at this; cases this), fun e => (by rw [e, hc] at hr0; cases hr0)⟩
  have hpb : p ≠ bm := fun e => by have := h.row; rw [e, hr0] at this; cases this
  have hp3 : w3.heap[p]? = w.heap[p]? := hch.block p (hlt p h.mp) (fun h' => h'.elim (fun e => h.mg.ne_row h.row e.symm) (fun e => by obtain ⟨_, c, hc⟩ := hVM p e; exact (hpc p c hc).1 rfl))
  have hb3 : w3.heap[bm]? = w.heap[bm]? := hch.block bm (hlt bm h.mm) (fun h' => h'.elim (fun e => h.mg.ne_row hr0 e.symm) (fun e => by obtain ⟨_, c, hc⟩ := hVM bm e; exact (hpc bm c hc).2 rfl))
  have hrow3 : w3.heap[p]? = some (.cells #[.slice (some ⟨bm, 0, none⟩) s.ms.length cm, .map (some bl), .int .i64 s.L.length] 70) := hp3.trans h.row
  have h4b : ∀ i, i ≠ p → w4.heap[i]? = w3.heap[i]? := fun i hi => by rw [h4]; exact Below.heap_setCell _ _ _ _ (fun e => hi e)
  have hs4 : w4.heap.size = w3.heap.size := by rw [h4]; unfold World.setCell; split <;> simp
  have hblp : bl ≠ p := h.mg.ne_row h.row
  have hch4 : Ch M w w4 := by
    rw [h4]
    refine (hch.mono (fun i hi => ?_)).set (Or.inl h.mp) _
    rcases hi with rfl | hi
    · exact h.ml
    · exact (hVM i hi).1
  refine ⟨fun i => M i ∨ (w.heap.size ≤ i ∧ i < w4.heap.size), ⟨?_, h.le, h.mr.at ((h4b bm hpb.symm).trans hb3), hmg.at (h4b bl hblp), ?_, ?_, ?_, Or.inl h.mp, Or.inl h.mm, Or.inl h.ml⟩, fun i hi => or_to hi id (fun h => h.1), fun i hi => hi.elim (fun h => Nat.lt_of_lt_of_le (hlt i h) hch4.size) (fun h => h.2), fun i hi => Or.inl hi, hch4⟩
  · rw [h4, row_set hrow3]
    simp
  · intro y hy
    by_cases e : y = x
    · subst e
      rw [upd_same] at hy
      rcases hr with ⟨_, h'⟩ | ⟨g, off, cap, h', _⟩
      · exact h'
      · rw [hy] at h'; cases h'
    · rw [upd_ne f _ e] at hy
      show qs L' y.1 y.2 = []
      rw [hq y e]
      exact h.no y hy
  · intro y v hy
    by_cases e : y = x
    · subst e
      rw [upd_same] at hy
      rcases hr with ⟨h', _⟩ | ⟨g, off, cap, h', q1, q2, q3⟩
      · rw [hy] at h'; cases h'
      · rw [hy] at h'
        cases h'
        have hgp : g ≠ p := fun e => by
          obtain ⟨c, q1, _⟩ := q1
          rw [e, hrow3] at q1
          cases q1
        refine ⟨g, off, cap, rfl, q1.at (h4b g hgp), q2, ?_⟩
        rcases q3 with q3 | q3
        · exact Or.inl (hVM g q3).1
        · exact Or.inr ⟨q3, by rw [hs4]; exact q1.lt⟩
    · rw [upd_ne f _ e] at hy
      obtain ⟨g, off, cap, rfl, q1, q2, q3⟩ := h.yes y v hy
      have hq1 := q1
      obtain ⟨c, hc, _⟩ := hq1
      have hg3 : w3.heap[g]? = w.heap[g]? := hch.block g q1.lt (fun h' => h'.elim (fun e' => h.mg.ne_row hc e'.symm) (fun e' => by
        cases hf : f x with
        | none => rw [hf] at e'; cases e'
        | some u =>
          rw [hf] at e'
          exact e (h.ap y x _ u g hy hf rfl e')))
      refine ⟨g, off, cap, ?_, ?_, ?_, Or.inl q3⟩
      · show _ = Value.slice _ (qs L' y.1 y.2).length _
        rw [hq y e]
      · show SR w4 g off cap (qs L' y.1 y.2)
        rw [hq y e]
        exact q1.at ((h4b g (hpc g c hc).1.symm).trans hg3)
      · show qs L' y.1 y.2 ≠ []
        rw [hq y e]
        exact q2
  · have key : ∀ y v g, y ≠ x → f y = some v → v.ownBlock = some g → ∀ u, r = some u → u.ownBlock = some g → False := by
      intro y v g hyx hy hv u hu hug
      rcases hr with ⟨h', _⟩ | ⟨g', off, cap, h', q1, q2, q3⟩
      · rw [hu] at h'; cases h'
      · rw [hu] at h'
        cases h'
        cases hug
        obtain ⟨g2, off2, cap2, rfl, k1, k2, k3⟩ := h.yes y v hy
        cases hv
        rcases q3 with q3 | q3
        · cases hf : f x with
          | none => rw [hf] at q3; cases q3
          | some u =>
            rw [hf] at q3
            exact hyx (h.ap y x _ u _ hy hf rfl q3)
        · have := k1.lt
          omega
    intro y z v u g hy hz hv hu
    by_cases e1 : y = x
    · subst e1
      by_cases e2 : z = y
      · exact e2.symm
      · rw [upd_same] at hy
        rw [upd_ne f _ e2] at hz
        exact (key z u g e2 hz hu v hy hv).elim
    · rw [upd_ne f _ e1] at hy
      by_cases e2 : z = x
      · subst e2
        rw [upd_same] at hz
        exact (key y v g e1 hy hv u hz hu).elim
      · rw [upd_ne f _ e2] at hz
        exact h.ap y z v u g hy hz hv hu
end Go.Proofs.Ytbcgikkdhfbphaa
