/- A member whose log is cut off may be, and tells the same: plain. -/
import Derived.Test.YtphiigejlfoinaaGreatGsd
namespace Go.Proofs.YtphiigejlfoinaaGreat
/-- What is known where a log may be cut off. -/
structure Ck (s : GP) (to : Int) (k : Nat) : Prop where
  may : mayG s = true
  eq : to = s.base + k
  k1 : 1 ≤ k
  kl : k ≤ s.log.length
  b0 : 0 ≤ s.base
  to62 : to ≤ 4611686018427387904
  com : to ≤ s.commit
  ci : s.commit ≤ s.lastI
theorem logB_parts {s : GP} (h : logB s = true) : mayEs s.baseT s.term s.log = true ∧ s.base ≤ s.commit ∧ s.commit ≤ s.lastI := by
  unfold logB at h
  simp only [Bool.and_eq_true, decide_eq_true_eq] at h
  exact ⟨h.2.2.2.1, h.2.2.2.2.1, h.2.2.2.2.2⟩
theorem ck_of {s : GP} {to : Int} (h : cmpB s to = true) (h0 : 0 ≤ s.base) : Ck s to (to - s.base).toNat := by
  unfold cmpB at h
  simp only [Bool.and_eq_true, Bool.not_eq_true', decide_eq_false_iff_not] at h
  obtain ⟨hm, h1, h2⟩ := h
  have hp := logB_parts (mayG_num hm).2.1
  have hlI : s.lastI = s.base + s.log.length := rfl
  exact ⟨hm, by omega, by omega, by omega, h0, by omega, by omega, hp.2.2⟩
section
variable {s : GP} {to : Int} {k : Nat} (h : Ck s to k) (d : ByteArray)
include h
theorem Ck.up : s.upTo to = some k := by
  have h1 := h.eq
  have h2 := h.kl
  unfold GP.upTo
  rw [if_neg (by omega)]
  congr 1
  omega
theorem Ck.at' : ∃ e, s.log[k - 1]? = some e ∧ s.tAt to = some e.t := by
  have h1 := h.k1
  have h2 := h.kl
  refine ⟨s.log[k - 1], List.getElem?_eq_getElem (by omega), ?_⟩
  unfold GP.tAt
  rw [h.up]
  obtain ⟨j, rfl⟩ : ∃ j, k = j + 1 := ⟨k - 1, by omega⟩
  show (s.log[j]?).map (·.t) = _
  rw [List.getElem?_eq_getElem (by omega)]
  rfl
theorem Ck.trim : s.trimTo to d = s.cut to ((s.tAt to).getD 0) (memOf s.B (s.log.take k)) d (s.log.drop k) := by
  unfold GP.trimTo
  rw [show (to - s.base).toNat = k by have := h.eq; omega]
  have : s.mAt to = memOf s.B (s.log.take k) := by unfold GP.mAt; rw [h.up]
  rw [this]
theorem Ck.lastI : (s.trimTo to d).lastI = s.lastI := by
  have h1 := h.eq
  have h2 := h.kl
  rw [h.trim d]
  show to + ((s.log.drop k).length : Int) = s.base + s.log.length
  rw [List.length_drop]
  omega
theorem Ck.lastT : (s.trimTo to d).lastT = s.lastT := by
  have h1 := h.k1
  have h2 := h.kl
  obtain ⟨e, he, ht⟩ := h.at'
  rw [h.trim d, ht]
  show (match (s.log.drop k).getLast? with | some e => e.t | none => e.t) = (match s.log.getLast? with | some e => e.t | none => s.baseT)
  rw [List.getLast?_drop]
  by_cases hk : s.log.length ≤ k
  · rw [if_pos hk, List.getLast?_eq_getElem?, show s.log.length - 1 = k - 1 by omega, he]
  · rw [if_neg hk]
    cases hq : s.log.getLast? with
    | none =>
      rw [List.getLast?_eq_none_iff] at hq
      rw [hq] at h2
      simp at h2
      omega
    | some y => rfl
theorem Ck.mem : (s.trimTo to d).M = s.M := by
  rw [h.trim d]
  show memOf (memOf s.B (s.log.take k)) (s.log.drop k) = s.M
  rw [← memOf_app, List.take_append_drop]
  have := (mayG_num h.may).2.2.1
  unfold memB at this
  simp only [Bool.and_eq_true, decide_eq_true_eq] at this
  exact this.2.symm
end
theorem mayEs_drop {hi : Int} : ∀ {l : List GE} {lo : Int} {k : Nat} {e : GE}, mayEs lo hi l = true → l[k]? = some e → mayEs e.t hi (l.drop (k + 1)) = true
  | [], _, _, _, _, h => by simp at h
  | y :: l, lo, 0, e, h, hk => by
    simp at hk
    subst hk
    unfold mayEs at h
    simp only [Bool.and_eq_true] at h
    simpa using h.2
  | y :: l, lo, k + 1, e, h, hk => by
    unfold mayEs at h
    simp only [Bool.and_eq_true] at h
    have := mayEs_drop (k := k) h.2 (by simpa using hk)
    simpa using this
theorem Ck.mayq {s : GP} {to : Int} {k : Nat} (h : Ck s to k) (d : ByteArray) : mayG (s.trimTo to d) = true := by
  obtain ⟨h1, h2, h3, h4⟩ := mayG_num h.may
  have hp := logB_parts h2
  obtain ⟨e, he, ht⟩ := h.at'
  have hem := List.mem_of_getElem? he
  obtain ⟨e1, e2, e3⟩ := mayEs_mem hp.1 e hem
  have hM := h.mem d
  have hI := h.lastI d
  have hkk := h.k1
  have hto := h.to62
  have hcom := h.com
  have hci := h.ci
  have hb0 := h.b0
  have heq := h.eq
  have hes : mayEs e.t s.term (s.log.drop k) = true := by
    have := mayEs_drop hp.1 he
    rwa [show k - 1 + 1 = k by omega] at this
  have het : 0 < e.t ∨ e.t < 0 := by omega
  unfold mayG
  simp only [Bool.and_eq_true]
  refine ⟨?_, ?_, ?_, ?_⟩
  · rw [h.trim d]
    unfold numB at h1 ⊢
    simp only [Bool.and_eq_true, decide_eq_true_eq] at h1 ⊢
    obtain ⟨a1, a2, a3, a4, a5, _, a7⟩ := h1
    exact ⟨a1, a2, a3, a4, a5, hto, a7⟩
  · unfold logB
    rw [hI]
    rw [h.trim d, ht]
    show ((to == 0) == (e.t == 0) && ((decide (0 < to) || d.toList.isEmpty) && (decide (e.t ≤ s.term) && (mayEs e.t s.term (s.log.drop k) && (decide (to ≤ s.commit) && decide (s.commit ≤ s.lastI)))))) = true
    rw [show (to == 0) = false from beq_eq_false_iff_ne.2 (by omega), show (e.t == 0) = false from beq_eq_false_iff_ne.2 e2, decide_eq_true (by omega : 0 < to), decide_eq_true e3, hes, decide_eq_true hcom, decide_eq_true hci]
    rfl
  · unfold memB
    rw [h.trim d]
    show ((decide (0 < (memOf s.B (s.log.take k)).length) && aids 0 (memOf s.B (s.log.take k))) && decide (memOf (memOf s.B (s.log.take k)) (s.log.drop k) = memOf (memOf s.B (s.log.take k)) (s.log.drop k))) = true
    have hB : 0 < s.B.length ∧ aids 0 s.B = true := by
      unfold memB at h3
      simp only [Bool.and_eq_true, decide_eq_true_eq] at h3
      exact h3.1
    have := memOf_ids (s.log.take k) s.B hB (fun y hy => (mayEs_mem hp.1 y (List.mem_of_mem_take hy)).1)
    rw [decide_eq_true this.1, this.2, decide_eq_true rfl]
    rfl
  · have e0 : rolB (s.trimTo to d) = rolB s := by
      have ef : folB (s.trimTo to d) = folB s := by
        unfold folB othG
        rw [hI, hM]
        rw [h.trim d]
        rfl
      have er : reaB (s.trimTo to d) = reaB s := by rw [h.trim d]; rfl
      have el : leadB (s.trimTo to d) = leadB s := by
        unfold leadB
        rw [ef, er]
        rw [h.trim d]
        rfl
      have es : standB (s.trimTo to d) = standB s := by
        unfold standB
        rw [hM]
        rw [h.trim d]
        rfl
      unfold rolB
      rw [el, es]
      rw [h.trim d]
      rfl
    rw [e0]
    exact h4
theorem Ck.tat {s : GP} {to : Int} {k : Nat} (h : Ck s to k) (d : ByteArray) (i : Int) (h1 : to ≤ i) : (s.trimTo to d).tAt i = s.tAt i := by
  have heq := h.eq
  have hkl := h.kl
  obtain ⟨e, he, ht⟩ := h.at'
  rw [h.trim d, ht]
  have hu : (s.cut to e.t (memOf s.B (s.log.take k)) d (s.log.drop k)).upTo i = if (s.log.length : Int) - k < i - to then none else some (i - to).toNat := by
    unfold GP.upTo
    show (if i < to ∨ ((s.log.drop k).length : Int) < i - to then none else some (i - to).toNat) = _
    rw [List.length_drop]
    by_cases hc : (s.log.length : Int) - k < i - to
    · rw [if_pos hc, if_pos (by omega)]
    · rw [if_neg hc, if_neg (by omega)]
  have hs : s.upTo i = if (s.log.length : Int) - k < i - to then none else some ((i - to).toNat + k) := by
    unfold GP.upTo
    by_cases hc : (s.log.length : Int) - k < i - to
    · rw [if_pos hc, if_pos (by omega)]
    · rw [if_neg hc, if_neg (by omega)]
      congr 1
      omega
  simp only [Option.getD_some]
  unfold GP.tAt
  rw [hu, hs]
  by_cases hc : (s.log.length : Int) - k < i - to
  · rw [if_pos hc, if_pos hc]
  · rw [if_neg hc, if_neg hc]
    have hk1 := h.k1
    cases hj : (i - to).toNat with
    | zero =>
      obtain ⟨m, rfl⟩ : ∃ m, k = m + 1 := ⟨k - 1, by omega⟩
      rw [Nat.zero_add]
      show some e.t = (s.log[m]?).map (·.t)
      rw [show m + 1 - 1 = m by omega] at he
      rw [he]
      rfl
    | succ j =>
      rw [show j + 1 + k = (j + k) + 1 by omega]
      show ((s.log.drop k)[j]?).map (·.t) = (s.log[j + k]?).map (·.t)
      rw [List.getElem?_drop, Nat.add_comm]
theorem Ck.lay {s : GP} {to : Int} {k : Nat} (h : Ck s to k) (d : ByteArray) (f : Int × Int × Int) (h1 : to ≤ f.2.1 - 1) (h2 : f.2.1 ≤ s.lastI + 1) : (s.trimTo to d).lay f = s.lay f := by
  have heq := h.eq
  have hlI : s.lastI = s.base + s.log.length := rfl
  have hkl := h.kl
  unfold GP.lay
  rw [h.tat d _ h1, h.lastI d]
  rw [h.trim d]
  show GM.mk 3 s.id f.1 s.term (f.2.1 - 1) ((s.tAt (f.2.1 - 1)).getD 0) s.commit s.round false (((s.log.drop k).take (min s.lastI (f.2.1 - 1 + 16) - to).toNat).drop (f.2.1 - 1 - to).toNat) [] ⟨#[]⟩ = GM.mk 3 s.id f.1 s.term (f.2.1 - 1) ((s.tAt (f.2.1 - 1)).getD 0) s.commit s.round false ((s.log.take (min s.lastI (f.2.1 - 1 + 16) - s.base).toNat).drop (f.2.1 - 1 - s.base).toNat) [] ⟨#[]⟩
  congr 1
  rw [show (min s.lastI (f.2.1 - 1 + 16) - s.base).toNat = k + (min s.lastI (f.2.1 - 1 + 16) - to).toNat by omega, show (f.2.1 - 1 - s.base).toNat = k + (f.2.1 - 1 - to).toNat by omega, ← List.drop_drop]
  congr 1
  rw [List.drop_take]
  congr 1
  omega
theorem folsB_mem {last : Int} : ∀ {F : List (Int × Int × Int)} {I : List Int}, folsB last F I = true → ∀ f ∈ F, 1 ≤ f.2.1 ∧ f.2.1 ≤ last + 1 ∧ f.2.2 < f.2.1
  | [], _, _, f, hf => by cases hf
  | g :: F, [], h, f, hf => by simp [folsB] at h
  | g :: F, i :: I, h, f, hf => by
    unfold folsB fol1B at h
    simp only [Bool.and_eq_true, decide_eq_true_eq] at h
    rcases List.mem_cons.1 hf with e | e
    · rw [e]; exact ⟨h.1.2.1, h.1.2.2.1, h.1.2.2.2⟩
    · exact folsB_mem h.2 f e
theorem may_lead {s : GP} (h : mayG s = true) (hf : s.fol ≠ []) : s.role = 2 ∧ ∀ f ∈ s.fol, 1 ≤ f.2.1 ∧ f.2.1 ≤ s.lastI + 1 := by
  have h4 := (mayG_num h).2.2.2
  unfold rolB at h4
  by_cases hr : s.role = 2
  · rw [if_pos hr] at h4
    unfold leadB at h4
    simp only [Bool.and_eq_true] at h4
    exact ⟨hr, fun f hm => by have := folsB_mem h4.2.2.2.1 f hm; exact ⟨this.1, this.2.1⟩⟩
  · rw [if_neg hr, if_pos (Or.inl (List.length_pos_iff.2 hf))] at h4
    exact absurd h4 (by decide)
/-- What was sent ahead of the cut and behind it. -/
theorem Ck.snd {s : GP} {to : Int} {k : Nat} (h : Ck s to k) (d : ByteArray) (f : Int × Int × Int) (h2 : f.2.1 ≤ s.lastI + 1) : ((s.trimTo to d).snd f = s.snd f ∧ (s.snd f).kind = 3) ∨ (((s.trimTo to d).snd f).kind = 5 ∧ ((s.trimTo to d).snd f).index = to) := by
  have heq := h.eq
  have hk1 := h.k1
  unfold GP.snd
  have hb : (s.trimTo to d).base = to := by rw [h.trim d]; rfl
  rw [hb]
  by_cases hc : f.2.1 - 1 < to
  · right
    rw [if_pos hc]
    rw [h.trim d]
    exact ⟨rfl, rfl⟩
  · left
    rw [if_neg hc, if_neg (by omega), h.lay d f (by omega) h2]
    exact ⟨rfl, rfl⟩
/-- What is known of the member behind the cut. -/
theorem Ck.gz {s : GP} {x x' : Px} {to : Int} {k : Nat} (h : Ck s to k) (hz : Gz s x) (d : ByteArray) (hc : (s.trimTo to d).log.length ≤ x'.cL) : Gz (s.trimTo to d) x' := by
  obtain ⟨e, he, ht⟩ := h.at'
  have hem := List.mem_of_getElem? he
  have heq := h.eq
  have hb := h.b0
  have h62 := h.to62
  have hM := h.mem d
  refine ⟨?_, ?_, ?_, ?_, ?_, by rw [hM]; exact hz.m, ?_, ?_, ?_, ?_, ?_, ?_, ?_, ?_, ?_, hc⟩
  all_goals rw [h.trim d]
  · exact hz.term
  · exact ⟨by show 0 ≤ to; omega, by show to ≤ _; omega⟩
  · show 0 ≤ (s.tAt to).getD 0 ∧ (s.tAt to).getD 0 ≤ _
    rw [ht]
    exact hz.lt e hem
  · exact hz.commit
  · exact hz.round
  · exact memOf_len _ _ hz.b (fun y hy => hz.lm y (List.mem_of_mem_take hy))
  · exact hz.v
  · show (s.log.drop k).length ≤ _
    rw [List.length_drop]; have := hz.l; omega
  · exact fun y hy => hz.lm y (List.mem_of_mem_drop hy)
  · exact fun y hy => hz.lt y (List.mem_of_mem_drop hy)
  · exact hz.f
  · exact hz.ft
  · exact hz.r
  · exact hz.ra
end Go.Proofs.YtphiigejlfoinaaGreat
