/- A member whose log is cut off may be, and tells the same: plain. alive of the law of trimmed logs. -/
import Derived.Test.YtphiigejlfoinaaGreatHsd
import Derived.Test.YtphiigejlfoinaaGreatLsm
import Derived.Test.YtphiigejlfoinaaGreatNeg
namespace Go.Proofs.YtphiigejlfoinaaGreat
/-- What is known where a log may be cut off. -/
structure Ck (s : GP) (to : Int) (k : Nat) : Prop where
  may : mayG s = true
  eq : to = s.base + k
  k1 : 1 ≤ k
  kl : k ≤ s.log.length
  b0 : 0 ≤ s.base
  to62 : to ≤ 4611686018427387904
  com : to ≤ s.commit
  ci : s.commit ≤ s.lastI
theorem logB_parts {s : GP} (h : logB s = true) : mayEs s.baseT s.term s.log = true ∧ s.base ≤ s.commit ∧ s.commit ≤ s.lastI := by
  unfold logB at h
  simp only [Bool.and_eq_true, decide_eq_true_eq] at h
  exact ⟨h.2.2.2.1, h.2.2.2.2.1, h.2.2.2.2.2⟩
theorem ck_of {s : GP} {to : Int} (h : cmpB s to = true) (h0 : 0 ≤ s.base) : Ck s to (to - s.base).toNat := by
  unfold cmpB at h
  simp only [Bool.and_eq_true, Bool.not_eq_true', decide_eq_false_iff_not] at h
  obtain ⟨hm, h1, h2⟩ := h
  have hp := logB_parts (mayG_num hm).2.1
  have hlI : s.lastI = s.base + s.log.length := rfl
  exact ⟨hm, by omega, by omega, by omega, h0, by omega, by omega, hp.2.2⟩
section
variable {s : GP} {to : Int} {k : Nat} (h : Ck s to k) (d : ByteArray)
include h
theorem Ck.up : s.upTo to = some k := by
  have h1 := h.eq
  have h2 := h.kl
  unfold GP.upTo
  rw [if_neg (by omega)]
  congr 1
  omega
theorem Ck.at' : ∃ e, s.log[k - 1]? = some e ∧ s.tAt to = some e.t := by
  have h1 := h.k1
  have h2 := h.kl
  refine ⟨s.log[k - 1], List.getElem?_eq_getElem (by omega), ?_⟩
  unfold GP.tAt
  rw [h.up]
  obtain ⟨j, rfl⟩ : ∃ j, k = j + 1 := ⟨k - 1, by omega⟩
  show (s.log[j]?).map (·.t) = _
  rw [List.getElem?_eq_getElem (by omega)]
  rfl
theorem Ck.trim : s.trimTo to d = s.cut to ((s.tAt to).getD 0) (memOf s.B (s.log.take k)) d (s.log.drop k) := by
  unfold GP.trimTo
  rw [show (to - s.base).toNat = k by have := h.eq; omega]
  have : s.mAt to = memOf s.B (s.log.take k) := by unfold GP.mAt; rw [h.up]
  rw [this]
theorem Ck.lastI : (s.trimTo to d).lastI = s.lastI := by
  have h1 := h.eq
  have h2 := h.kl
  rw [h.trim d]
  show to + ((s.log.drop k).length : Int) = s.base + s.log.length
  rw [List.length_drop]
  omega
theorem Ck.lastT : (s.trimTo to d).lastT = s.lastT := by
  have h1 := h.k1
  have h2 := h.kl
  obtain ⟨e, he, ht⟩ := h.at'
  rw [h.trim d, ht]
  show (match (s.log.drop k).getLast? with | some e => e.t | none => e.t) = (match s.log.getLast? with | some e => e.t | none => s.baseT)
  rw [List.getLast?_drop]
  by_cases hk : s.log.length ≤ k
  · rw [if_pos hk, List.getLast?_eq_getElem?, show s.log.length - 1 = k - 1 by omega, he]
  · rw [if_neg hk]
    cases hq : s.log.getLast? with
    | none =>
      rw [List.getLast?_eq_none_iff] at hq
      rw [hq] at h2
      simp at h2
      omega
    | some y => rfl
theorem Ck.mem : (s.trimTo to d).M = s.M := by
  rw [h.trim d]
  show memOf (memOf s.B (s.log.take k)) (s.log.drop k) = s.M
  rw [← memOf_app, List.take_append_drop]
  have := (mayG_num h.may).2.2.1
  unfold memB at this
  simp only [Bool.and_eq_true, decide_eq_true_eq] at this
  exact this.2.symm
end
theorem mayEs_drop {hi : Int} : ∀ {l : List GE} {lo : Int} {k : Nat} {e : GE}, mayEs lo hi l = true → l[k]? = some e → mayEs e.t hi (l.drop (k + 1)) = true
  | [], _, _, _, _, h => by simp at h
  | y :: l, lo, 0, e, h, hk => by
    simp at hk
    subst hk
    unfold mayEs at h
    simp only [Bool.and_eq_true] at h
    simpa using h.2
  | y :: l, lo, k + 1, e, h, hk => by
    unfold mayEs at h
    simp only [Bool.and_eq_true] at h
    have := mayEs_drop (k := k) h.2 (by simpa using hk)
    simpa using this
theorem Ck.mayq {s : GP} {to : Int} {k : Nat} (h : Ck s to k) (d : ByteArray) : mayG (s.trimTo to d) = true := by
  obtain ⟨h1, h2, h3, h4⟩ := mayG_num h.may
  have hp := logB_parts h2
  obtain ⟨e, he, ht⟩ := h.at'
  have hem := List.mem_of_getElem? he
  obtain ⟨e1, e2, e3⟩ := mayEs_mem hp.1 e hem
  have hM := h.mem d
  have hI := h.lastI d
  have hkk := h.k1
  have hto := h.to62
  have hcom := h.com
  have hci := h.ci
  have hb0 := h.b0
  have heq := h.eq
  have hes : mayEs e.t s.term (s.log.drop k) = true := by
    have := mayEs_drop hp.1 he
    rwa [show k - 1 + 1 = k by omega] at this
  have het : 0 < e.t ∨ e.t < 0 := by omega
  unfold mayG
  simp only [Bool.and_eq_true]
  refine ⟨?_, ?_, ?_, ?_⟩
  · rw [h.trim d]
    unfold numB at h1 ⊢
    simp only [Bool.and_eq_true, decide_eq_true_eq] at h1 ⊢
    obtain ⟨a1, a2, a3, a4, a5, _, a7⟩ := h1
    exact ⟨a1, a2, a3, a4, a5, hto, a7⟩
  · unfold logB
    rw [hI]
    rw [h.trim d, ht]
    show ((to == 0) == (e.t == 0) && ((decide (0 < to) || d.toList.isEmpty) && (decide (e.t ≤ s.term) && (mayEs e.t s.term (s.log.drop k) && (decide (to ≤ s.commit) && decide (s.commit ≤ s.lastI)))))) = true
    rw [show (to == 0) = false from beq_eq_false_iff_ne.2 (by omega), show (e.t == 0) = false from beq_eq_false_iff_ne.2 e2, decide_eq_true (by omega : 0 < to), decide_eq_true e3, hes, decide_eq_true hcom, decide_eq_true hci]
    rfl
  · unfold memB
    rw [h.trim d]
    show ((decide (0 < (memOf s.B (s.log.take k)).length) && aids 0 (memOf s.B (s.log.take k))) && decide (memOf (memOf s.B (s.log.take k)) (s.log.drop k) = memOf (memOf s.B (s.log.take k)) (s.log.drop k))) = true
    have hB : 0 < s.B.length ∧ aids 0 s.B = true := by
      unfold memB at h3
      simp only [Bool.and_eq_true, decide_eq_true_eq] at h3
      exact h3.1
    have := memOf_ids (s.log.take k) s.B hB (fun y hy => (mayEs_mem hp.1 y (List.mem_of_mem_take hy)).1)
    rw [decide_eq_true this.1, this.2, decide_eq_true rfl]
    rfl
  · have e0 : rolB (s.trimTo to d) = rolB s := by
      have ef : folB (s.trimTo to d) = folB s := by
        unfold folB othG
        rw [hI, hM]
        rw [h.trim d]
        rfl
      have er : reaB (s.trimTo to d) = reaB s := by rw [h.trim d]; rfl
      have el : leadB (s.trimTo to d) = leadB s := by
        unfold leadB
        rw [ef, er]
        rw [h.trim d]
        rfl
      have es : standB (s.trimTo to d) = standB s := by
        unfold standB
        rw [hM]
        rw [h.trim d]
        rfl
      unfold rolB
      rw [el, es]
      rw [h.trim d]
      rfl
    rw [e0]
    exact h4
theorem Ck.tat {s : GP} {to : Int} {k : Nat} (h : Ck s to k) (d : ByteArray) (i : Int) (h1 : to ≤ i) : (s.trimTo to d).tAt i = s.tAt i := by
  have heq := h.eq
  have hkl := h.kl
  obtain ⟨e, he, ht⟩ := h.at'
  rw [h.trim d, ht]
  have hu : (s.cut to e.t (memOf s.B (s.log.take k)) d (s.log.drop k)).upTo i = if (s.log.length : Int) - k < i - to then none else some (i - to).toNat := by
    unfold GP.upTo
    show (if i < to ∨ ((s.log.drop k).length : Int) < i - to then none else some (i - to).toNat) = _
    rw [List.length_drop]
    by_cases hc : (s.log.length : Int) - k < i - to
    · rw [if_pos hc, if_pos (by omega)]
    · rw [if_neg hc, if_neg (by omega)]
  have hs : s.upTo i = if (s.log.length : Int) - k < i - to then none else some ((i - to).toNat + k) := by
    unfold GP.upTo
    by_cases hc : (s.log.length : Int) - k < i - to
    · rw [if_pos hc, if_pos (by omega)]
    · rw [if_neg hc, if_neg (by omega)]
      congr 1
      omega
  simp only [Option.getD_some]
  unfold GP.tAt
  rw [hu, hs]
  by_cases hc : (s.log.length : Int) - k < i - to
  · rw [if_pos hc, if_pos hc]
  · rw [if_neg hc, if_neg hc]
    have hk1 := h.k1
    cases hj : (i - to).toNat with
    | zero =>
      obtain ⟨m, rfl⟩ : ∃ m, k = m + 1 := ⟨k - 1, by omega⟩
      rw [Nat.zero_add]
      show some e.t = (s.log[m]?).map (·.t)
      rw [show m + 1 - 1 = m by omega] at he
      rw [he]
      rfl
    | succ j =>
      rw [show j + 1 + k = (j + k) + 1 by omega]
      show ((s.log.drop k)[j]?).map (·.t) = (s.log[j + k]?).map (·.t)
      rw [List.getElem?_drop, Nat.add_comm]
theorem Ck.lay {s : GP} {to : Int} {k : Nat} (h : Ck s to k) (d : ByteArray) (f : Int × Int × Int) (h1 : to ≤ f.2.1 - 1) (h2 : f.2.1 ≤ s.lastI + 1) : (s.trimTo to d).lay f = s.lay f := by
  have heq := h.eq
  have hlI : s.lastI = s.base + s.log.length := rfl
  have hkl := h.kl
  unfold GP.lay
  rw [h.tat d _ h1, h.lastI d]
  rw [h.trim d]
  show GM.mk 3 s.id f.1 s.term (f.2.1 - 1) ((s.tAt (f.2.1 - 1)).getD 0) s.commit s.round false (((s.log.drop k).take (min s.lastI (f.2.1 - 1 + 16) - to).toNat).drop (f.2.1 - 1 - to).toNat) [] ⟨#[]⟩ = GM.mk 3 s.id f.1 s.term (f.2.1 - 1) ((s.tAt (f.2.1 - 1)).getD 0) s.commit s.round false ((s.log.take (min s.lastI (f.2.1 - 1 + 16) - s.base).toNat).drop (f.2.1 - 1 - s.base).toNat) [] ⟨#[]⟩
  congr 1
  rw [show (min s.lastI (f.2.1 - 1 + 16) - s.base).toNat = k + (min s.lastI (f.2.1 - 1 + 16) - to).toNat by omega, show (f.2.1 - 1 - s.base).toNat = k + (f.2.1 - 1 - to).toNat by omega, ← List.drop_drop]
  congr 1
  rw [List.drop_take]
  congr 1
  omega
theorem folsB_mem {last : Int} : ∀ {F : List (Int × Int × Int)} {I : List Int}, folsB last F I = true → ∀ f ∈ F, 1 ≤ f.2.1 ∧ f.2.1 ≤ last + 1 ∧ f.2.2 < f.2.1
  | [], _, _, f, hf => by cases hf
  | g :: F, [], h, f, hf => by simp [folsB] at h
  | g :: F, i :: I, h, f, hf => by
    unfold folsB fol1B at h
    simp only [Bool.and_eq_true, decide_eq_true_eq] at h
    rcases List.mem_cons.1 hf with e | e
    · rw [e]; exact ⟨h.1.2.1, h.1.2.2.1, h.1.2.2.2⟩
    · exact folsB_mem h.2 f e
theorem may_lead {s : GP} (h : mayG s = true) (hf : s.fol ≠ []) : s.role = 2 ∧ ∀ f ∈ s.fol, 1 ≤ f.2.1 ∧ f.2.1 ≤ s.lastI + 1 := by
  have h4 := (mayG_num h).2.2.2
  unfold rolB at h4
  by_cases hr : s.role = 2
  · rw [if_pos hr] at h4
    unfold leadB at h4
    simp only [Bool.and_eq_true] at h4
    exact ⟨hr, fun f hm => by have := folsB_mem h4.2.2.2.1 f hm; exact ⟨this.1, this.2.1⟩⟩
  · rw [if_neg hr, if_pos (Or.inl (List.length_pos_iff.2 hf))] at h4
    exact absurd h4 (by decide)
/-- What was sent ahead of the cut and behind it. -/
theorem Ck.snd {s : GP} {to : Int} {k : Nat} (h : Ck s to k) (d : ByteArray) (f : Int × Int × Int) (h2 : f.2.1 ≤ s.lastI + 1) : ((s.trimTo to d).snd f = s.snd f ∧ (s.snd f).kind = 3) ∨ (((s.trimTo to d).snd f).kind = 5 ∧ ((s.trimTo to d).snd f).index = to) := by
  have heq := h.eq
  have hk1 := h.k1
  unfold GP.snd
  have hb : (s.trimTo to d).base = to := by rw [h.trim d]; rfl
  rw [hb]
  by_cases hc : f.2.1 - 1 < to
  · right
    rw [if_pos hc]
    rw [h.trim d]
    exact ⟨rfl, rfl⟩
  · left
    rw [if_neg hc, if_neg (by omega), h.lay d f (by omega) h2]
    exact ⟨rfl, rfl⟩
/-- What is known of the member behind the cut. -/
theorem Ck.gz {s : GP} {x x' : Px} {to : Int} {k : Nat} (h : Ck s to k) (hz : Gz s x) (d : ByteArray) (hc : (s.trimTo to d).log.length ≤ x'.cL) : Gz (s.trimTo to d) x' := by
  obtain ⟨e, he, ht⟩ := h.at'
  have hem := List.mem_of_getElem? he
  have heq := h.eq
  have hb := h.b0
  have h62 := h.to62
  have hM := h.mem d
  refine ⟨?_, ?_, ?_, ?_, ?_, by rw [hM]; exact hz.m, ?_, ?_, ?_, ?_, ?_, ?_, ?_, ?_, ?_, hc⟩
  all_goals rw [h.trim d]
  · exact hz.term
  · exact ⟨by show 0 ≤ to; omega, by show to ≤ _; omega⟩
  · show 0 ≤ (s.tAt to).getD 0 ∧ (s.tAt to).getD 0 ≤ _
    rw [ht]
    exact hz.lt e hem
  · exact hz.commit
  · exact hz.round
  · exact memOf_len _ _ hz.b (fun y hy => hz.lm y (List.mem_of_mem_take hy))
  · exact hz.v
  · show (s.log.drop k).length ≤ _
    rw [List.length_drop]; have := hz.l; omega
  · exact fun y hy => hz.lm y (List.mem_of_mem_drop hy)
  · exact fun y hy => hz.lt y (List.mem_of_mem_drop hy)
  · exact hz.f
  · exact hz.ft
  · exact hz.r
  · exact hz.ra
end Go.Proofs.YtphiigejlfoinaaGreat
namespace Go.Proofs.YtphiigejlfoinaaGreat
open Go.RowKit Go.Maps Go.Sort
/-- A group of one, behind its first tick. -/
def mA1 : PP := ⟨1, 1, 1, 2, 1, 2, 10, [noop 1], [], [], 0⟩
def mB1 : PP := ⟨1, 1, 1, 2, 1, 2, 10, [noop 1], [], [], 1⟩
theorem tick_1 : (pnew 1 1).tick 1 0 = (mA1, []) := by rfl
theorem adv_1 : mA1.adv = mB1 := by rfl
theorem lg_1 : Lg 1 [noop 1] := ⟨by simp, fun x hx => by
  rw [List.mem_singleton.1 hx]; exact ⟨⟨by decide, by decide⟩, Or.inr ⟨rfl, rfl⟩⟩⟩
theorem ok_s1 : Ok 1 1 1 mA1 := ⟨by decide, by decide, by decide, by decide, by decide, by decide, by decide, by decide, lg_1, by decide, by decide, List.Pairwise.nil, (fun x hx => by cases hx), Or.inr (Or.inr ⟨rfl, rfl, by decide, rfl, by decide, by decide, (fun f hf => by cases hf)⟩)⟩
theorem ok_q1 : Ok 1 1 1 mB1 := ⟨by decide, by decide, by decide, by decide, by decide, by decide, by decide, by decide, lg_1, by decide, by decide, List.Pairwise.nil, (fun x hx => by cases hx), Or.inr (Or.inr ⟨rfl, rfl, by decide, rfl, by decide, by decide, (fun f hf => by cases hf)⟩)⟩
theorem Pf.low {base : Nat} {W : World} {n : Nat} {s : PP} {x : Px} (hf : Pf base W n s x) : Pf 0 W n s x := ⟨hf.m.mono (Nat.zero_le _), hf.b.mono (Nat.zero_le _), hf.l.mono (Nat.zero_le _), hf.v.mono (Nat.zero_le _), hf.f.mono (Nat.zero_le _), hf.dv⟩
theorem new_1 (W' : World) : Calls Tryz.prog 11 #[.int .i64 1, .int .i64 1, .slice (some ⟨W'.heap.size, 0, none⟩) 1 1] (W'.alloc (.cells #[.int .i64 1] 3)) fun e w' => ∃ x', e = .returned (.tuple #[.agg (pc 1 (pnew 1 1) x'), .int .i64 0]) ∧ Pf 0 w' 1 (pnew 1 1) x' ∧ Bel W' w' :=
  (new_any (n := 1) (id := 1) (wait := 1) (sl_new3 W' [1]) (by decide) (by decide) (by decide)).mono (fun _ _ ⟨x', he, hf, hb⟩ => ⟨x', he, hf.low, ((Bel.refl W').alloc _).trans hb⟩)
theorem ltick_1 (W' : World) (x' : Px) (hp : Pf 0 W' 1 (pnew 1 1) x') : Calls Tryz.prog 12 #[.agg (pc 1 (pnew 1 1) x'), .int .i64 0] W' fun e w' => ∃ x2 aA cA, e = .returned (.tuple #[.agg (pc 1 mB1 x2), .slice aA 0 cA, .int .i64 0]) ∧ Pf 0 w' 1 mB1 x2 ∧ Bel W' w' := by
  have := ltick_win hp.pq (pnew_ok (n := 1) (id := 1) (wait := 1) (by decide) (by decide)) (by decide) (by decide) (by decide) 0 (by decide) (by decide) tick_1 ok_s1 (by decide) rfl
  rw [adv_1] at this
  exact this.mono (fun _ _ ⟨x2, aA, cA, he, hf, hb⟩ => ⟨x2, aA, cA, he, hf.low, hb⟩)
/-- A member of a group of n, as any. -/
def PP.g (n : Nat) (s : PP) : GP := ⟨s.id, mem n, s.term, s.vote, s.role, s.lead, 0, 0, mem n, ⟨#[]⟩, s.log.map (fun e => ⟨e.t, e.k, e.d, []⟩), s.commit, s.idle, s.wait, s.votes, s.fol, 0, []⟩
theorem pc_gc (n : Nat) (s : PP) (x : Px) : pc n s x = gc (s.g n) x := by
  unfold pc gc PP.g
  simp [mem_len]
theorem gp_of {base : Nat} {W : World} {n : Nat} {s : PP} {x : Px} (h : Pf base W n s x) : Gp W (s.g n) x := by
  refine ⟨(Sl.of h.m).1, (Sl.of h.b).1, ?_, (Sl.of h.v).1, (Sl.of h.f).1, ⟨[], rfl, Sl.nil _ _ _, fun x hx => by cases hx⟩⟩
  obtain ⟨g, off, ha, hR⟩ := (Sl.of h.l).1
  refine ⟨s.log.map (fun e => (⟨e.t, e.k, e.d, []⟩, ⟨none, 0⟩)), by rw [List.map_map]; rfl, ⟨g, off, fun h0 => ha (by simpa using h0), fun j hj c u hu => ?_⟩, fun y hy => ?_⟩
  · have hj' : j < s.log.length := by simpa using hj
    rw [List.getElem_map] at hu
    exact hR j hj' c u hu
  · obtain ⟨e, _, rfl⟩ := List.mem_map.1 hy
    exact Sl.nil _ _ _
/-- The one, as any. -/
def gB1 : GP := mB1.g 1
theorem gB1_eq : gB1 = ⟨1, [1], 1, 1, 2, 1, 0, 0, [1], ⟨#[]⟩, [⟨1, 1, ⟨#[]⟩, []⟩], 1, 2, 10, [], [], 0, []⟩ := rfl
def ds : ByteArray := ⟨#[115]⟩
theorem gB1_cmp : cmpB gB1 1 = true := by
  rw [gB1_eq]
  simp [cmpB, mayG, numB, logB, memB, rolB, leadB, folB, folsB, reaB, reasB, othG, idB, noneB, aids, mayEs, mayE, memOf, GP.lastI, ByteArray.toList_eq]
  omega
theorem gB1_ck : Ck gB1 1 1 := by
  have := ck_of gB1_cmp (by rw [gB1_eq]; decide)
  exact this
theorem gB1_gz (x : Px) (hc : 1 ≤ x.cL) : Gz gB1 x := by
  rw [gB1_eq]
  refine ⟨by decide, by decide, by decide, by decide, by decide, by decide, by decide, by decide, by decide, ?_, ?_, by decide, ?_, by decide, ?_, hc⟩
  · intro e he; simp at he; rw [he]; decide
  · intro e he; simp at he; rw [he]; decide
  · intro e he; simp at he
  · intro e he; simp at he
/-- Behind the cut. -/
def gR1 (d : ByteArray) : GP := gB1.trimTo 1 d
theorem gR1_eq (d : ByteArray) : gR1 d = ⟨1, [1], 1, 1, 2, 1, 1, 1, [1], d, [], 1, 2, 10, [], [], 0, []⟩ := rfl
theorem gR1_no (d : ByteArray) : cmpB (gR1 d) 1 = false := by
  unfold cmpB
  rw [gR1_eq]
  simp
set_option maxRecDepth 100000 in
theorem tick_t (W' : World) (x' : Px) (hp : Pf 0 W' 1 (pnew 1 1) x') : Calls Tryz.prog 12 #[.agg (pc 1 (pnew 1 1) x'), .int .i64 0] W' fun e w' => ∃ x2 aA cA, e = .returned (.tuple #[.agg (gc gB1 x2), .slice aA 0 cA, .int .i64 0]) ∧ Gp w' gB1 x2 ∧ 1 ≤ x2.cL ∧ Bel W' w' :=
  (ltick_1 W' x' hp).mono (fun e w' ⟨x2, aA, cA, he, hf, hb⟩ => ⟨x2, aA, cA, by rw [he, pc_gc]; rfl, gp_of hf, (Sl.of hf.l).2.2, hb⟩)
theorem cut_t (W' : World) (x' : Px) (d : ByteArray) (hd : d.size ≤ 1044480) (hp : Gp W' gB1 x') (hc : 1 ≤ x'.cL) : Calls Tryz.prog 13 #[.agg (gc gB1 x'), .int .u64 1, .string d] W' fun e w' => ∃ x2, e = .returned (.tuple #[.agg (gc (gR1 d) x2), .int .i64 0]) ∧ Gp w' (gR1 d) x2 ∧ Bel W' w' :=
  (compact_yes hp (gB1_gz x' hc) 1 (by decide) d gB1_cmp hd).mono (fun e w' ⟨x2, he, hg, _, hb⟩ => ⟨x2, he, hg.gp, hb⟩)
theorem cut_z (W' : World) (x' : Px) (d : ByteArray) (hd : 1044480 < d.size) (hp : Gp W' gB1 x') (hc : 1 ≤ x'.cL) : Calls Tryz.prog 13 #[.agg (gc gB1 x'), .int .u64 1, .string d] W' fun e w' => e = .returned (.tuple #[.agg (gc g0 y0), .int .i64 4]) ∧ Bel W' w' :=
  compact_long hp (gB1_gz x' hc) 1 d gB1_cmp hd
theorem cut_n (W' : World) (x' : Px) (d d2 : ByteArray) (hp : Gp W' (gR1 d) x') : Calls Tryz.prog 13 #[.agg (gc (gR1 d) x'), .int .u64 1, .string d2] W' fun e w' => e = .returned (.tuple #[.agg (gc g0 y0), .int .i64 2]) ∧ Bel W' w' :=
  compact_no hp (gB1_ck.gz (gB1_gz ⟨none, 0, none, 0, none, 1, none, 0, none, 0, none, 0⟩ (by decide)) d (by show (gR1 d).log.length ≤ _; rw [gR1_eq]; exact Nat.zero_le _)) 1 d2 (gR1_no d)
set_option maxRecDepth 100000 in
set_option maxHeartbeats 8000000 in
theorem alive_t {W : World} : Calls Tryz.prog 14 #[] W fun e w' => e = .returned (.bool true) ∧ Bel W w' := by
  have HN := hide new_1
  have HT := hide tick_t
  have HC := hide (fun W' x' => cut_t W' x' ds (by decide))
  have HD := hide (fun W' x' => cut_n W' x' ds ds)
  obtain ⟨r1, hr1⟩ : ∃ r1, r1 = gR1 ds := ⟨_, rfl⟩
  rw [← hr1] at HC HD
  have HR : Hid (r1.base = 1 ∧ r1.snap = ⟨#[115]⟩ ∧ r1.log.length = 0) := hide (by rw [hr1, gR1_eq]; exact ⟨rfl, rfl, rfl⟩)
  rw [show ds = ⟨#[115]⟩ from rfl] at HC HD
  clear hr1
  generalize gB1 = gB at *
  go_enter Tryz.func14, Tryz.ntmps14
  go_wp2_with (first
    | go_skip
    | (refine bx_ldK 31 (.tmp 1) (by exact rfl) _ (by exact rfl) (by exact rfl) (pc 1 (pnew 1 1) x1) _ (unhide HR1) Tryz.underlying31 (Tryz.size32 _ _ _) ?_)
    | (refine bx_ldK 31 (.tmp 3) (by exact rfl) _ (by exact rfl) (by exact rfl) (gc gB x2) _ (unhide HR3) Tryz.underlying31 (Tryz.sizeP _ _) ?_)
    | (refine bx_ldK 31 (.tmp 6) (by exact rfl) _ (by exact rfl) (by exact rfl) (gc r1 x3) _ (unhide HR6) Tryz.underlying31 (Tryz.sizeP _ _) ?_)
    | go_guarded
    | (go_at_call 11; refine ((unhide HN) _).mono ?_; rintro e w1 ⟨x1, rfl, hp1, hb1⟩; have HP := hide hp1; have HB := hide hb1; clear hp1 hb1)
    | (refine bx_new rfl 31 rfl _ Tryz.zeroP ?_; intro b w4 hr4 hs4 hb4; have HQ := hide (And.intro hr4 (And.intro hs4 hb4)); clear hr4 hs4 hb4)
    | (refine bx_st rfl 31 (.tmp 1) _ rfl b (pc 1 (pnew 1 1) x1) _ rfl rfl (unhide HQ).1 (Tryz.size32 _ _ _) rfl (pc_one _ _ _) ?_; intro w5 hr5 hc5; have hbb := bel_off (unhide HQ).2.2 hc5 (Nat.le_of_eq (unhide HQ).2.1); have HR1 := hide hr5; have HP := hide ((unhide HP).bel hbb); have HB := hide ((unhide HB).trans hbb); clear hr5 hc5 hbb)
    | (go_at_call 12; refine ((unhide HT) _ _ (unhide HP)).mono ?_; rintro e w2 ⟨x2, aA, cA, rfl, hp2, hc2, hb2⟩; have HP2 := hide (And.intro hp2 hc2); have HB := hide ((unhide HB).trans hb2); clear hp2 hc2 hb2)
    | (refine bx_st rfl 31 (.tmp 3) _ rfl b (gc gB x2) _ rfl rfl (unhide HQ).1 (Tryz.sizeP _ _) rfl (gc_one _ _) ?_; intro w5 hr5 hc5; have hbb := bel_off (unhide HQ).2.2 hc5 (Nat.le_of_eq (unhide HQ).2.1); have HR3 := hide hr5; have HP2 := hide (And.intro ((unhide HP2).1.bel hbb) (unhide HP2).2); have HB := hide ((unhide HB).trans hbb); clear hr5 hc5 hbb)
    | (go_at_call 13; refine ((unhide HC) _ _ (unhide HP2).1 (unhide HP2).2).mono ?_; rintro e w3 ⟨x3, rfl, hg3, hb3⟩; have HP3 := hide hg3; have HB := hide ((unhide HB).trans hb3); clear hg3 hb3 HC)
    | (refine bx_st rfl 31 (.tmp 6) _ rfl b (gc r1 x3) _ rfl rfl (unhide HQ).1 (Tryz.sizeP _ _) rfl (gc_one _ _) ?_; intro w6 hr6 hc6; have hbb := bel_off (unhide HQ).2.2 hc6 (Nat.le_of_eq (unhide HQ).2.1); have HR6 := hide hr6; have HP3 := hide ((unhide HP3).bel hbb); have HB := hide ((unhide HB).trans hbb); clear hr6 hc6 hbb)
    | (go_at_call 13; refine ((unhide HD) _ _ (unhide HP3)).mono ?_; rintro e w7 ⟨rfl, hb7⟩; have HR6 := hide (hb7.row (unhide HR6)); have HB := hide ((unhide HB).trans hb7); clear hb7)
    | (refine bx_st rfl 31 (.tmp 8) _ rfl b (gc g0 y0) _ rfl rfl (unhide HQ).1 (Tryz.sizeP _ _) rfl (gc_one _ _) ?_; intro w8 hr8 hc8; have hbb := bel_off (unhide HQ).2.2 hc8 (Nat.le_of_eq (unhide HQ).2.1); have z6 := (Bg.of (hbb.row (unhide HR6))).c6; have z9 := (Bg.of (hbb.row (unhide HR6))).c9; have z10 := (Bg.of (hbb.row (unhide HR6))).c10; rw [(unhide HR).1] at z6; rw [(unhide HR).2.1] at z9; rw [(unhide HR).2.2] at z10; have HB := hide ((unhide HB).trans hbb); clear hr8 hc8 hbb))
  go_ret
  exact ⟨rfl, unhide HB⟩
end Go.Proofs.YtphiigejlfoinaaGreat
