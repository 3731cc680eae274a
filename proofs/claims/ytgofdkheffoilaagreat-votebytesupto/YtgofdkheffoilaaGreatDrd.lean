/- Read of the document. -/
import Derived.Test.YtgofdkheffoilaaGreatMre
import Derived.Test.YtgofdkheffoilaaGreatDnb
namespace Go.Proofs.YtgofdkheffoilaaGreat
open Go.RowKit Go.Maps
/-- The answer's box, the reader and the message's box. -/
structure Rg (W w : World) (B b0 br b5 : Nat) (s : ByteArray) (f : Bool) (m : GM) (x : GX) : Prop where
  row0 : w.heap[b0]? = some (.cells (mg gz gzx) 27)
  r : Rsf w br s f
  row : w.heap[b5]? = some (.cells (mg m x) 27)
  bel : Bel W w
  ge0 : W.heap.size ≤ b0
  ger : W.heap.size ≤ br
  ge5 : W.heap.size ≤ b5
  n05 : b0 ≠ b5
  nr5 : br ≠ b5
  n0r : b0 ≠ br
  l0 : b0 < B
  lr : br < B
  l5 : b5 < B
  lB : B ≤ w.heap.size
section
variable {W w w' : World} {B b0 br b5 : Nat} {s s' : ByteArray} {f f' : Bool} {m m' : GM} {x x' : GX}
theorem Rg.read (h : Rg W w B b0 br b5 s f m x) (hr : Rsf w' br s' f') (hc : Ch (fun i => i = br) w w') : Rg W w' B b0 br b5 s' f' m x := ⟨hc.row h.row0 h.n0r, hr, hc.row h.row h.nr5.symm, bel_off h.bel hc h.ger, h.ge0, h.ger, h.ge5, h.n05, h.nr5, h.n0r, h.l0, h.lr, h.l5, Nat.le_trans h.lB hc.size⟩
theorem Rg.set (h : Rg W w B b0 br b5 s f m x) (hr : w'.heap[b5]? = some (.cells (mg m' x') 27)) (hc : Ch (fun i => i = b5) w w') : Rg W w' B b0 br b5 s f m' x' := ⟨hc.row h.row0 h.n05, hc.row h.r h.nr5, hr, bel_off h.bel hc h.ge5, h.ge0, h.ger, h.ge5, h.n05, h.nr5, h.n0r, h.l0, h.lr, h.l5, Nat.le_trans h.lB hc.size⟩
theorem Rg.next (h : Rg W w B b0 br b5 s f m x) (hb : Bel w w') : Rg W w' B b0 br b5 s f m x := ⟨hb.row h.row0, h.r.bel hb, hb.row h.row, h.bel.trans hb, h.ge0, h.ger, h.ge5, h.n05, h.nr5, h.n0r, h.l0, h.lr, h.l5, Nat.le_trans h.lB hb.size⟩
end
theorem Gr.off {base b : Nat} {w w' : World} {m : GM} {x : GX} (h : Gr base w m x) (hc : Ch (fun i => i = b) w w') (hb : b < base) : Gr base w' m x := ⟨h.e, h.l.off hc hb, h.g.off hc hb, h.m.off hc hb⟩
/-- The document reads a message in these bytes. -/
def okD (s : ByteArray) : Bool := (!(qmsg s false).2.2 && decide ((qmsg s false).2.1.size = 0)) && (mayMB (qmsg s false).1 && decide ((⟨(msgb (qmsg s false).1).toArray⟩ : ByteArray) = s))
def rdD (s : ByteArray) : GM := if okD s then (qmsg s false).1 else gz

theorem qmsg_of {s : ByteArray} {f : Bool} {v0 : Nat} {s0 : ByteArray} {g0 : Bool} {v1 : Nat} {s1 : ByteArray} {g1 : Bool} {v2 : Nat} {s2 : ByteArray} {g2 : Bool} {v3 : Nat} {s3 : ByteArray} {g3 : Bool} {v4 : Nat} {s4 : ByteArray} {g4 : Bool} {v5 : Nat} {s5 : ByteArray} {g5 : Bool} {v6 : Nat} {s6 : ByteArray} {g6 : Bool} {v7 : Nat} {s7 : ByteArray} {g7 : Bool} {v8 : Nat} {s8 : ByteArray} {g8 : Bool} {v9 : List GE} {s9 : ByteArray} {g9 : Bool} {v10 : List Int} {s10 : ByteArray} {g10 : Bool} {v11 : ByteArray} {s11 : ByteArray} {g11 : Bool} (e0 : qbyte s f = (v0, s0, g0)) (e1 : qnum 1048576 s0 g0 = (v1, s1, g1)) (e2 : qnum 1048576 s1 g1 = (v2, s2, g2)) (e3 : qnum 18446744073709551615 s2 g2 = (v3, s3, g3)) (e4 : qnum 18446744073709551615 s3 g3 = (v4, s4, g4)) (e5 : qnum 18446744073709551615 s4 g4 = (v5, s5, g5)) (e6 : qnum 18446744073709551615 s5 g5 = (v6, s6, g6)) (e7 : qnum 18446744073709551615 s6 g6 = (v7, s7, g7)) (e8 : qbyte s7 g7 = (v8, s8, g8)) (e9 : qents s8 g8 = (v9, s9, g9)) (e10 : qints s9 g9 = (v10, s10, g10)) (e11 : qtext s10 g10 = (v11, s11, g11)) : qmsg s f = (⟨(v0 : Int), (v1 : Int), (v2 : Int), (v3 : Int), (v4 : Int), (v5 : Int), (v6 : Int), (v7 : Int), decide ((v8 : Int) = 1), v9, v10, v11⟩, s11, g11) := by
  unfold qmsg
  simp only [e0]
  simp only [e1]
  simp only [e2]
  simp only [e3]
  simp only [e4]
  simp only [e5]
  simp only [e6]
  simp only [e7]
  simp only [e8]
  simp only [e9]
  simp only [e10]
  simp only [e11]
theorem qmsg_steps (s : ByteArray) (f : Bool) : ∃ (v0 : Nat) (s0 : ByteArray) (g0 : Bool) (v1 : Nat) (s1 : ByteArray) (g1 : Bool) (v2 : Nat) (s2 : ByteArray) (g2 : Bool) (v3 : Nat) (s3 : ByteArray) (g3 : Bool) (v4 : Nat) (s4 : ByteArray) (g4 : Bool) (v5 : Nat) (s5 : ByteArray) (g5 : Bool) (v6 : Nat) (s6 : ByteArray) (g6 : Bool) (v7 : Nat) (s7 : ByteArray) (g7 : Bool) (v8 : Nat) (s8 : ByteArray) (g8 : Bool) (v9 : List GE) (s9 : ByteArray) (g9 : Bool) (v10 : List Int) (s10 : ByteArray) (g10 : Bool) (v11 : ByteArray) (s11 : ByteArray) (g11 : Bool), qbyte s f = (v0, s0, g0) ∧ qnum 1048576 s0 g0 = (v1, s1, g1) ∧ qnum 1048576 s1 g1 = (v2, s2, g2) ∧ qnum 18446744073709551615 s2 g2 = (v3, s3, g3) ∧ qnum 18446744073709551615 s3 g3 = (v4, s4, g4) ∧ qnum 18446744073709551615 s4 g4 = (v5, s5, g5) ∧ qnum 18446744073709551615 s5 g5 = (v6, s6, g6) ∧ qnum 18446744073709551615 s6 g6 = (v7, s7, g7) ∧ qbyte s7 g7 = (v8, s8, g8) ∧ qents s8 g8 = (v9, s9, g9) ∧ qints s9 g9 = (v10, s10, g10) ∧ qtext s10 g10 = (v11, s11, g11) ∧ qmsg s f = (⟨(v0 : Int), (v1 : Int), (v2 : Int), (v3 : Int), (v4 : Int), (v5 : Int), (v6 : Int), (v7 : Int), decide ((v8 : Int) = 1), v9, v10, v11⟩, s11, g11) :=
  ⟨_, _, _, _, _, _, _, _, _, _, _, _, _, _, _, _, _, _, _, _, _, _, _, _, _, _, _, _, _, _, _, _, _, _, _, _, prod3 _, prod3 _, prod3 _, prod3 _, prod3 _, prod3 _, prod3 _, prod3 _, prod3 _, prod3 _, prod3 _, prod3 _, qmsg_of (prod3 _) (prod3 _) (prod3 _) (prod3 _) (prod3 _) (prod3 _) (prod3 _) (prod3 _) (prod3 _) (prod3 _) (prod3 _) (prod3 _)⟩
theorem qentsN_facts : ∀ (n : Nat) (s : ByteArray) (f : Bool), (qentsN n s f).1.length ≤ n ∧ (qentsN n s f).2.1.size ≤ s.size ∧ ∀ e ∈ (qentsN n s f).1, 0 ≤ e.t ∧ 0 ≤ e.k ∧ e.m.length ≤ 1048576 ∧ e.d.size ≤ s.size
  | 0, s, f => ⟨Nat.le_refl _, Nat.le_refl _, fun e he => by simp [qentsN] at he⟩
  | n + 1, s, f => by
    have h1 := qent_facts s f
    have h0 : 0 ≤ (qent s f).1.t ∧ 0 ≤ (qent s f).1.k := by unfold qent; simp
    have h2 := qentsN_facts n (qent s f).2.1 (qent s f).2.2
    unfold qentsN
    split
    · exact ⟨Nat.zero_le _, Nat.le_refl _, fun e he => by simp at he⟩
    · refine ⟨Nat.succ_le_succ h2.1, Nat.le_trans h2.2.1 h1.2.2, fun e he => ?_⟩
      rcases List.mem_cons.1 he with rfl | he
      · exact ⟨h0.1, h0.2, h1.1, h1.2.1⟩
      · have z := h2.2.2 e he
        exact ⟨z.1, z.2.1, z.2.2.1, Nat.le_trans z.2.2.2 h1.2.2⟩
theorem qents_facts (s : ByteArray) (f : Bool) : (qents s f).2.1.size ≤ s.size ∧ (qents s f).1.length ≤ 1048576 ∧ ∀ e ∈ (qents s f).1, 0 ≤ e.t ∧ 0 ≤ e.k ∧ e.m.length ≤ 1048576 ∧ e.d.size ≤ s.size := by
  have h1 := qnum_facts 1048576 s f
  have h2 := qentsN_facts (qnum 1048576 s f).1 (qnum 1048576 s f).2.1 (qnum 1048576 s f).2.2
  unfold qents
  exact ⟨Nat.le_trans h2.2.1 h1.2.2, Nat.le_trans h2.1 h1.1, fun e he => ⟨(h2.2.2 e he).1, (h2.2.2 e he).2.1, (h2.2.2 e he).2.2.1, Nat.le_trans (h2.2.2 e he).2.2.2 h1.2.2⟩⟩
theorem qbyte_lt (s : ByteArray) (f : Bool) : (qbyte s f).1 < 256 := by
  unfold qbyte
  split
  · show 0 < 256; decide
  · show n0 s < 256
    unfold n0
    split
    · exact UInt8.toNat_lt _
    · decide
/-- What the document reads are numbers of their types. -/
theorem qmsg_nn (s : ByteArray) (hs : s.size ≤ 1048576) : Nn (qmsg s false).1 ∧ (qmsg s false).1.ents.length ≤ 1048576 ∧ (qmsg s false).1.mem.length ≤ 1048576 ∧ (∀ e ∈ (qmsg s false).1.ents, e.m.length ≤ 1048576) := by
  obtain ⟨v0, s0, g0, v1, s1, g1, v2, s2, g2, v3, s3, g3, v4, s4, g4, v5, s5, g5, v6, s6, g6, v7, s7, g7, v8, s8, g8, v9, s9, g9, v10, s10, g10, v11, s11, g11, e0, e1, e2, e3, e4, e5, e6, e7, e8, e9, e10, e11, e⟩ := qmsg_steps s false
  have f0 := qbyte_facts s false
  rw [e0] at f0
  have f1 := qnum_facts 1048576 s0 g0
  rw [e1] at f1
  have f2 := qnum_facts 1048576 s1 g1
  rw [e2] at f2
  have f3 := qnum_facts 18446744073709551615 s2 g2
  rw [e3] at f3
  have f4 := qnum_facts 18446744073709551615 s3 g3
  rw [e4] at f4
  have f5 := qnum_facts 18446744073709551615 s4 g4
  rw [e5] at f5
  have f6 := qnum_facts 18446744073709551615 s5 g5
  rw [e6] at f6
  have f7 := qnum_facts 18446744073709551615 s6 g6
  rw [e7] at f7
  have f8 := qbyte_facts s7 g7
  rw [e8] at f8
  have f9 := qents_facts s8 g8
  rw [e9] at f9
  have f10 := qints_facts s9 g9
  rw [e10] at f10
  have f11 := qtext_facts s10 g10
  rw [e11] at f11
  simp only at f0 f1 f2 f3 f4 f5 f6 f7 f8 f9 f10 f11
  rw [e]
  refine ⟨⟨by simp, by simp, by simp, by simp, ⟨by simp, by simp only; omega⟩, by simp, fun q hq => ?_, by simp only; omega⟩, f9.2.1, f10.1, fun q hq => (f9.2.2 q hq).2.2.1⟩
  have z := f9.2.2 q hq
  exact ⟨z.1, z.2.1, by have := z.2.2.2; omega⟩
end Go.Proofs.YtgofdkheffoilaaGreat
