/- The program reads what the document reads: plain. -/
import Derived.Test.YtgofdkheffoilaaGreatDrd
namespace Go.Proofs.YtgofdkheffoilaaGreat
open Go.RowKit Go.Maps
theorem pentsN_nn : ∀ (n : Nat) (s : ByteArray) (f : Bool), ∀ e ∈ (pentsN n s f).1, 0 ≤ e.t ∧ 0 ≤ e.k
  | 0, s, f => fun e he => by simp [pentsN] at he
  | n + 1, s, f => fun e he => by
    have h0 : 0 ≤ (pent s f).1.t ∧ 0 ≤ (pent s f).1.k := by unfold pent; simp
    unfold pentsN at he
    split at he
    · simp at he
    · rcases List.mem_cons.1 he with rfl | he
      · exact h0
      · exact pentsN_nn n _ _ e he
theorem pents_nn (m : Nat) (s : ByteArray) (f : Bool) : ∀ e ∈ (pents m s f).1, 0 ≤ e.t ∧ 0 ≤ e.k := by unfold pents; exact pentsN_nn _ _ _
/-- What the program reads are numbers of their types. -/
theorem pmsg_nn (s : ByteArray) (hs : s.size ≤ 1048576) : Nn (pmsg s false).1 := by
  have F := pmsg_facts s false
  obtain ⟨v0, s0, g0, v1, s1, g1, v2, s2, g2, v3, s3, g3, v4, s4, g4, v5, s5, g5, v6, s6, g6, v7, s7, g7, v8, s8, g8, v9, s9, g9, v10, s10, g10, v11, s11, g11, e0, e1, e2, e3, e4, e5, e6, e7, e8, e9, e10, e11, e⟩ := pmsg_steps s false
  have f6 := pnum_facts s5 g5
  rw [e6] at f6
  have f9 := pents_nn 16 s8 g8
  rw [e9] at f9
  rw [e] at F ⊢
  simp only at F f6 f9
  refine ⟨by simp, by simp, by simp, by simp, ⟨by simp, by simp only; omega⟩, by simp, fun q hq => ?_, by simp only; omega⟩
  exact ⟨(f9 q hq).1, (f9 q hq).2, by have := (F.2.2.2 q hq).2; omega⟩
theorem read_of_p (s : ByteArray) (hs : s.size ≤ 1048576) (h : okP s = true) : okD s = true ∧ qmsg s false = pmsg s false := by
  unfold okP at h
  simp only [Bool.and_eq_true, Bool.not_eq_true', decide_eq_true_eq] at h
  obtain ⟨⟨h1, h2⟩, h3⟩ := h
  have hone := pmsg_one s h1 h2
  have hq := qmsg_back _ (gd_of (pmsg_nn s hs) h3)
  rw [← hone] at hq
  refine ⟨?_, ?_⟩
  · unfold okD
    rw [hq]
    simp only [Bool.and_eq_true, Bool.not_eq_true', decide_eq_true_eq]
    exact ⟨⟨trivial, rfl⟩, h3, hone.symm⟩
  · have z := pmsg_back _ (gd_of (pmsg_nn s hs) h3)
    rw [← hone] at z
    rw [hq, z]
theorem read_of_d (s : ByteArray) (hs : s.size ≤ 1048576) (h : okD s = true) : okP s = true := by
  unfold okD at h
  simp only [Bool.and_eq_true, Bool.not_eq_true', decide_eq_true_eq] at h
  obtain ⟨_, h3, h4⟩ := h
  have hp := pmsg_back _ (gd_of (qmsg_nn s hs).1 h3)
  rw [h4] at hp
  unfold okP
  rw [hp]
  simp only [Bool.and_eq_true, Bool.not_eq_true', decide_eq_true_eq]
  exact ⟨⟨trivial, rfl⟩, h3⟩
theorem ok_same (s : ByteArray) (hs : s.size ≤ 1048576) : okP s = okD s := by
  cases hp : okP s with
  | true => exact (read_of_p s hs hp).1.symm
  | false =>
    cases hd : okD s with
    | false => rfl
    | true => rw [read_of_d s hs hd] at hp; cases hp
theorem rd_same (s : ByteArray) (hs : s.size ≤ 1048576) : rdP s = rdD s := by
  unfold rdP rdD
  rw [ok_same s hs]
  cases hd : okD s with
  | false => rfl
  | true =>
    have z := (read_of_p s hs (read_of_d s hs hd)).2
    simp [z]
/-- A message that may be is read back. -/
theorem read_back (m : GM) (n : Nn m) (h : mayMB m = true) : okP ⟨(msgb m).toArray⟩ = true ∧ rdP ⟨(msgb m).toArray⟩ = m := by
  have z := pmsg_back m (gd_of n h)
  have h1 : okP ⟨(msgb m).toArray⟩ = true := by
    unfold okP
    rw [z]
    simp only [Bool.and_eq_true, Bool.not_eq_true', decide_eq_true_eq]
    exact ⟨⟨trivial, rfl⟩, h⟩
  refine ⟨h1, ?_⟩
  unfold rdP
  rw [h1, z]
  rfl
/-- What is known of a message that is an argument. -/
structure Am (w : World) (m : GM) (x : GX) : Prop where
  g : Gw w m x
  n : Nn m
  el : m.ents.length ≤ 1048576
  ml : m.mem.length ≤ 1048576
  ee : ∀ y ∈ x.ls, y.1.m.length ≤ 1048576
  tm : m.term < 18446744073709551616
  ix : m.index < 18446744073709551616
  lt : m.lterm < 18446744073709551616
  rd : m.round < 18446744073709551616
end Go.Proofs.YtgofdkheffoilaaGreat
