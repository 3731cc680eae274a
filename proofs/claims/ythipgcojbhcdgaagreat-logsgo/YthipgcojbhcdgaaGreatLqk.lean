/- What is sent may be: plain. -/
import Derived.Test.YthipgcojbhcdgaaGreatNra
import Derived.Test.YthipgcojbhcdgaaGreatLjo
namespace Go.Proofs.YthipgcojbhcdgaaGreat
/-- A message under way has the shape of its kind. -/
def Sh (n T G : Nat) (m : QM) : Prop := ((m.kind = 1 ∨ m.kind = 2) ∧ m = m.p.q) ∨ QOk n T G m
theorem Sh.mono {n T G T' G' : Nat} {m : QM} (h : Sh n T G m) (hT : T ≤ T') (hG : G ≤ G') : Sh n T' G' m := h.elim Or.inl (fun h => Or.inr (h.mono hT hG))
theorem tAt_ok {t : Int} {l : List PE} (h : Lg t l) (ht : 0 ≤ t) {i : Nat} (hi : i ≤ l.length) : 0 ≤ tAt l i ∧ tAt l i ≤ t ∧ (i = 0 ↔ tAt l i = 0) := by
  cases i with
  | zero => exact ⟨Int.le_refl _, ht, by simp [tAt]⟩
  | succ j =>
    rw [tAt_succ (by omega)]
    have := h.2 l[j] (List.getElem_mem (by omega))
    exact ⟨by omega, this.1.2, by omega, by omega⟩
theorem Lg.sub {t : Int} {l k : List PE} (h : Lg t l) (hs : k.Sublist l) : Lg t k := ⟨h.1.sublist hs, fun x hx => h.2 x (hs.subset hx)⟩
theorem tAt_low {l : List PE} (h : l.Pairwise (fun a b => a.t ≤ b.t)) {i : Nat} (hi : i ≤ l.length) (h0 : ∀ x ∈ l, 0 ≤ x.t) : ∀ x ∈ l.drop i, tAt l i ≤ x.t := by
  intro x hx
  cases i with
  | zero => exact h0 x (List.mem_of_mem_drop hx)
  | succ j =>
    rw [tAt_succ (by omega)]
    rw [← List.take_append_drop (j + 1) l, List.pairwise_append] at h
    exact h.2.2 _ (by rw [List.mem_take_iff_getElem]; exact ⟨j, by omega, rfl⟩) x hx
section
variable {n T G : Nat} {s : PP}
theorem msg_qok (h : Ok n T G s) (ht : 1 ≤ s.term) {f : Int × Int × Int} (hf : f.1 ∈ oth n s.id) (h1 : 1 ≤ f.2.1) (h2 : f.2.1 ≤ s.log.length + 1) : QOk n T G (s.msg f) := by
  obtain ⟨k, hk⟩ : ∃ k : Nat, (f.2.1 - 1).toNat = k := ⟨_, rfl⟩
  have hkl : k ≤ s.log.length := by omega
  have ha := tAt_ok h.log h.t0 hkl
  have hg := h.glen
  have hm := oth_mem.1 hf
  unfold PP.msg
  rw [hk]
  refine ⟨Or.inl rfl, ⟨h.id1, h.idn⟩, hm.1, fun e => hm.2 e.symm, ⟨ht, h.tT⟩, by show k ≤ G; omega, ⟨ha.1, ha.2.1⟩, by have := h.com; show s.commit ≤ G; omega, fun _ => ⟨rfl, ha.2.2, ?_, ?_, ?_⟩, fun h4 => ?_⟩
  · show ((s.log.drop k).take 16).length ≤ 16
    rw [List.length_take]; omega
  · exact h.log.sub ((List.take_sublist _ _).trans (List.drop_sublist _ _))
  · exact fun x hx => tAt_low h.log.1 hkl (fun y hy => by have := (h.log.2 y hy).1.1; omega) x (List.mem_of_mem_take hx)
  · have h4' : (3 : Int) = 4 := h4
    omega
theorem hrd_qok (h1 : 1 ≤ s.id ∧ s.id ≤ n) (ht : 1 ≤ s.term ∧ s.term ≤ T) {to : Int} (h2 : 1 ≤ to ∧ to ≤ n) (hne : s.id ≠ to) (ok : Bool) {i : Nat} (hi : i ≤ G) : QOk n T G (s.hrd to ok i) := by
  unfold PP.hrd
  refine ⟨Or.inr rfl, h1, h2, hne, ht, hi, ⟨Int.le_refl _, by show (0 : Int) ≤ s.term; omega⟩, Nat.zero_le _, fun h3 => ?_, fun _ => ⟨rfl, rfl, rfl⟩⟩
  have h3' : (4 : Int) = 3 := h3
  omega
theorem join_len {b : Nat} {l : List PE} {u : PP} (hb : b ≤ s.log.length) (hj : s.join b l = some u) : b + l.length ≤ u.log.length ∧ u.id = s.id ∧ u.term = s.term := by
  have hm := mt_len s.log l b hb
  have hm2 := mt_le s.log l b
  unfold PP.join at hj
  split at hj
  · rename_i e
    cases hj
    exact ⟨by omega, rfl, rfl⟩
  · split at hj
    · cases hj
    · cases hj
      refine ⟨?_, rfl, rfl⟩
      show _ ≤ (s.log.take (b + mt s.log b l) ++ l.drop (mt s.log b l)).length
      simp
      omega
theorem lay_qok (hid : 1 ≤ s.id ∧ s.id ≤ n) (ht : 1 ≤ s.term ∧ s.term ≤ T) {m : QM} (hm : QOk n T G m) (hto : m.to = s.id) (hg : s.log.length ≤ G) (hg' : (s.lay m).1.log.length ≤ G) : ∀ q ∈ (s.lay m).2, QOk n T G q := by
  have hf := hm.f
  have hne : s.id ≠ m.frm := fun e => hm.ne (by rw [hto]; exact e.symm)
  unfold PP.lay at hg' ⊢
  split
  · intro q hq
    rw [List.mem_singleton.1 hq]
    exact hrd_qok hid ht hf hne _ (by omega)
  · rename_i hc
    rw [if_neg hc] at hg'
    cases hj : s.join m.index m.ents with
    | none => intro q hq; cases hq
    | some u =>
      rw [hj] at hg'
      obtain ⟨j1, j2, j3⟩ := join_len (by omega) hj
      have hg2 : u.log.length ≤ G := hg'
      intro q hq
      rw [List.mem_singleton.1 hq]
      exact hrd_qok (by rw [j2]; exact hid) (by rw [j3]; exact ht) hf (by rw [j2]; exact hne) _ (by omega)
theorem ltake_qok (hok : Ok n T G s) {m : QM} (hm : QOk n T G m) (hto : m.to = s.id) (hok' : Ok n T G (s.ltake m).1) : ∀ q ∈ (s.ltake m).2, QOk n T G q := by
  have hr := rais_term (s := s) (t := m.term)
  have hmt := hm.term
  have hsT := hok.tT
  have hrT : (s.rais m.term).term ≤ T := by
    unfold PP.rais
    split
    · show (s.down m.term).term ≤ T
      unfold PP.down
      dsimp only
      split <;> omega
    · exact hsT
  have hlg : (s.rais m.term).log = s.log := by
    unfold PP.rais
    split <;> rfl
  have hgl := hok.glen
  have hf := hm.f
  have hne : s.id ≠ m.frm := fun e => hm.ne (by rw [hto]; exact e.symm)
  have hid : 1 ≤ (s.rais m.term).id ∧ (s.rais m.term).id ≤ n := by rw [hr.2.2]; exact ⟨hok.id1, hok.idn⟩
  unfold PP.ltake at hok' ⊢
  split
  · rename_i hk
    rw [if_pos hk] at hok'
    have hg' := hok'.glen
    unfold PP.tlay at hg' ⊢
    split
    · intro q hq
      rw [List.mem_singleton.1 hq]
      exact hrd_qok hid (by omega) hf (by rw [hr.2.2]; exact hne) _ (by rw [hlg]; exact hgl)
    · rename_i h1
      rw [if_neg h1] at hg'
      split
      · intro q hq; cases hq
      · rename_i h2
        rw [if_neg h2] at hg'
        have hdt : ((s.rais m.term).down m.term).term = (s.rais m.term).term := if_neg (by omega)
        exact lay_qok (s := { (s.rais m.term).down m.term with lead := m.frm, idle := 0 }) hid (by show 1 ≤ ((s.rais m.term).down m.term).term ∧ ((s.rais m.term).down m.term).term ≤ T; rw [hdt]; omega) hm (hto.trans hr.2.2.symm) (by show (s.rais m.term).log.length ≤ G; rw [hlg]; exact hgl) hg'
  · rename_i hk
    rw [if_neg hk] at hok'
    unfold PP.theard at hok' ⊢
    split
    · rename_i h1
      rw [if_pos h1] at hok'
      cases hq : (s.rais m.term).fol.find? (fun g => g.1 == m.frm) with
      | none => intro q hq; cases hq
      | some f =>
        rw [hq] at hok'
        have hfm : f ∈ (s.rais m.term).fol := List.mem_of_find?_eq_some hq
        have hsr : s.rais m.term = s := by
          unfold PP.rais at hfm ⊢
          split
          · rename_i h2
            rw [if_pos h2] at hfm
            cases hfm
          · rfl
        rw [hsr] at hok' hfm h1 ⊢
        have hr2 : s.role = 2 := by
          rcases hok.role with h' | h' | h'
          · rw [h'.2.2] at hfm; cases hfm
          · rw [h'.2.2.2.2] at hfm; cases hfm
          · exact h'.1
        have hfo := fol_ok hok hr2 f hfm
        have hfe : f.1 ∈ oth n s.id := by
          rcases hok.role with h' | h' | h'
          · omega
          · omega
          · rw [← h'.2.2.2.2.2.1]; exact List.mem_map.2 ⟨f, hfm, rfl⟩
        simp only at hok' ⊢
        split
        · rename_i ho
          simp only [ho, if_true] at hok'
          split
          · intro q hq; cases hq
          · intro q hq
            rw [List.mem_singleton.1 hq]
            refine msg_qok hok' (by show 1 ≤ s.term; omega) hfe (by dsimp only; omega) ?_
            show _ ≤ (s.log.length : Int) + 1
            dsimp only
            omega
        · rename_i ho
          have ho' : m.ok = false := by simpa using ho
          simp only [ho', Bool.false_eq_true, if_false] at hok'
          intro q hq
          rw [List.mem_singleton.1 hq]
          refine msg_qok hok' (by show 1 ≤ s.term; omega) hfe (by dsimp only; omega) ?_
          show _ ≤ (s.log.length : Int) + 1
          dsimp only
          omega
    · intro q hq; cases hq
theorem q_same (m : PM) (h : 0 ≤ m.index) (hk : m.kind = 1 ∨ m.kind = 2) : Sh n T G m.q := Or.inl ⟨hk, by rw [q_p h]⟩
theorem asks_sh (hok : 0 ≤ s.lastI) : ∀ q ∈ (s.asks n).map PM.q, Sh n T G q := by
  intro q hq
  obtain ⟨m, hm, rfl⟩ := List.mem_map.1 hq
  obtain ⟨i, _, rfl⟩ := List.mem_map.1 hm
  exact q_same _ hok (Or.inl rfl)
theorem tick_sh (draw : Int) : ∀ q ∈ (s.tick n draw).2.map PM.q, Sh n T G q := by
  unfold PP.tick
  split
  · intro q hq; cases hq
  · split
    · intro q hq; cases hq
    · exact asks_sh (by show (0 : Int) ≤ (s.log.length : Int); omega)
theorem take_sh (m : PM) : ∀ q ∈ (s.take n m).2.map PM.q, Sh n T G q := by
  unfold PP.take
  generalize (if s.term < m.term then s.down m.term else s) = u
  unfold PP.take1
  split
  · split <;>
    · intro q hq
      rw [List.mem_singleton.1 hq]
      exact q_same _ (Int.le_refl _) (Or.inr rfl)
  · split <;> (intro q hq; cases hq)
theorem ltick_sh (hok : Ok n T G s) (draw : Int) : ∀ q ∈ (s.ltick n draw).2, Sh n T G q := by
  unfold PP.ltick
  split
  · split
    · rename_i h1 h2
      have e : (s.tick n draw).1 = s := by unfold PP.tick; rw [if_pos h2]
      rw [e]
      have hok2 := adv_ok hok
      unfold PP.beat
      split
      · intro q hq; cases hq
      · intro q hq
        obtain ⟨f, hf, rfl⟩ := List.mem_map.1 hq
        refine Or.inr ?_
        have hr2 : s.adv.role = 2 := h2
        have hfo := fol_ok hok2 hr2 f hf
        rcases hok2.role with h' | h' | h'
        · omega
        · omega
        · exact msg_qok hok2 h'.2.2.1 (by rw [← h'.2.2.2.2.2.1]; exact List.mem_map.2 ⟨f, hf, rfl⟩) hfo.1 hfo.2.1
    · exact tick_sh draw
  · exact tick_sh draw
end
end Go.Proofs.YthipgcojbhcdgaaGreat
