/- A disk of the program and one of the document beside each other. -/
import Derived.Test.YtpngcmlaimcceaaDod
import Derived.Test.YtpngcmlaimcceaaAli
namespace Go.Proofs.Ytpngcmlaimcceaa
open Go.RowKit Go.Maps Go.WideMaps
/-- Two disks that share nothing that changes; none of them changes G. -/
structure Pr (C : Nat) (G : Nat → Prop) (W : World) (pd px : Nat) (d x : PD) : Prop where
  ex : ∃ M1 B1 M2 B2, Dk C W pd d M1 B1 ∧ Dx C W px x M2 B2 ∧ (∀ i, M1 i → M2 i → False) ∧ (∀ i, M1 i → B2 i → False) ∧ (∀ i, M2 i → B1 i → False) ∧ (∀ i, M1 i → G i → False) ∧ (∀ i, M2 i → G i → False)
  lt : ∀ i, G i → i < W.heap.size
/-- G stands. -/
structure Kp (G : Nat → Prop) (W W' : World) : Prop where
  os : W'.os = W.os
  tape : W'.tape = W.tape
  output : W'.output = W.output
  size : W.heap.size ≤ W'.heap.size
  block : ∀ k, G k → W'.heap[k]? = W.heap[k]?
theorem Kp.refl (G : Nat → Prop) (W : World) : Kp G W W := ⟨rfl, rfl, rfl, Nat.le_refl _, fun _ _ => rfl⟩
theorem Kp.trans {G : Nat → Prop} {a b c : World} (h : Kp G a b) (k : Kp G b c) : Kp G a c := ⟨k.os.trans h.os, k.tape.trans h.tape, k.output.trans h.output, Nat.le_trans h.size k.size, fun i hi => (k.block i hi).trans (h.block i hi)⟩
theorem Kp.less {G G' : Nat → Prop} {a b : World} (h : Kp G a b) (hg : ∀ i, G' i → G i) : Kp G' a b := ⟨h.os, h.tape, h.output, h.size, fun i hi => h.block i (hg i hi)⟩
theorem Kp.row {G : Nat → Prop} {a b : World} (h : Kp G a b) {k : Nat} {o : Obj} (hk : G k) (hr : a.heap[k]? = some o) : b.heap[k]? = some o := (h.block k hk).trans hr
theorem Bel.kp {G : Nat → Prop} {a b : World} (h : Bel a b) (hg : ∀ i, G i → i < a.heap.size) : Kp G a b := ⟨h.os, h.tape, h.output, h.size, fun i hi => h.block i (hg i hi)⟩
theorem Ch.kp {G M : Nat → Prop} {a b : World} (h : Ch M a b) (hg : ∀ i, G i → i < a.heap.size) (hd : ∀ i, M i → G i → False) : Kp G a b := ⟨h.os, h.tape, h.output, h.size, fun i hi => h.block i (hg i hi) (fun hm => hd i hm hi)⟩
theorem Pr.step1 {C C' : Nat} {G : Nat → Prop} {W W' : World} {pd px : Nat} {x d' : PD} {M1 B1 M2 B2 : Nat → Prop} (hC : C ≤ C') (h2 : Dx C W px x M2 B2) (h3 : ∀ i, M1 i → M2 i → False) (h4 : ∀ i, M1 i → B2 i → False) (h5 : ∀ i, M2 i → B1 i → False) (h6 : ∀ i, M1 i → G i → False) (h7 : ∀ i, M2 i → G i → False) (hlt : ∀ i, G i → i < W.heap.size) (ha : Aft C' W pd M1 B1 d' W') : Pr C' G W' pd px d' x ∧ Kp G W W' := by
  obtain ⟨M1', B1', k1, k2, k3, k4⟩ := ha
  refine ⟨⟨⟨M1', B1', M2, B2, k1, (h2.mono hC).at k4.size (fun i hi => ?_), fun i a b => ?_, fun i a b => ?_, fun i a b => ?_, fun i a b => ?_, h7⟩, fun i hi => Nat.lt_of_lt_of_le (hlt i hi) k4.size⟩, k4.kp hlt h6⟩
  · rcases hi with hi | hi
    · exact k4.block i (h2.ltM i hi) (fun hm => h3 i hm hi)
    · exact k4.block i (h2.ltB i hi) (fun hm => h4 i hm hi)
  · rcases k2 i a with h | h
    · exact h3 i h b
    · have := h2.ltM i b; omega
  · rcases k2 i a with h | h
    · exact h4 i h b
    · have := h2.ltB i b; omega
  · rcases k3 i b with h | h
    · exact h5 i a h
    · have := h2.ltM i a; omega
  · rcases k2 i a with h | h
    · exact h6 i h b
    · have := hlt i b; omega
theorem Pr.step2 {C C' : Nat} {G : Nat → Prop} {W W' : World} {pd px : Nat} {d x' : PD} {M1 B1 M2 B2 : Nat → Prop} (hC : C ≤ C') (h1 : Dk C W pd d M1 B1) (h3 : ∀ i, M1 i → M2 i → False) (h4 : ∀ i, M1 i → B2 i → False) (h5 : ∀ i, M2 i → B1 i → False) (h6 : ∀ i, M1 i → G i → False) (h7 : ∀ i, M2 i → G i → False) (hlt : ∀ i, G i → i < W.heap.size) (ha : Afx C' W px M2 B2 x' W') : Pr C' G W' pd px d x' ∧ Kp G W W' := by
  obtain ⟨M2', B2', k1, k2, k3, k4⟩ := ha
  refine ⟨⟨⟨M1, B1, M2', B2', (h1.mono hC).at k4.size (fun i hi => ?_), k1, fun i a b => ?_, fun i a b => ?_, fun i a b => ?_, h6, fun i a b => ?_⟩, fun i hi => Nat.lt_of_lt_of_le (hlt i hi) k4.size⟩, k4.kp hlt h7⟩
  · rcases hi with hi | hi
    · exact k4.block i (h1.ltM i hi) (fun hm => h3 i hi hm)
    · exact k4.block i (h1.ltB i hi) (fun hm => h5 i hm hi)
  · rcases k2 i b with h | h
    · exact h3 i a h
    · have := h1.ltM i a; omega
  · rcases k3 i b with h | h
    · exact h4 i a h
    · have := h1.ltM i a; omega
  · rcases k2 i a with h | h
    · exact h5 i h b
    · have := h1.ltB i b; omega
  · rcases k2 i a with h | h
    · exact h7 i h b
    · have := hlt i b; omega
theorem Pr.bel {C : Nat} {G : Nat → Prop} {W W' : World} {pd px : Nat} {d x : PD} (h : Pr C G W pd px d x) (hb : Bel W W') : Pr C G W' pd px d x ∧ Kp G W W' := by
  obtain ⟨M1, B1, M2, B2, h1, h2, h3⟩ := h.ex
  exact ⟨⟨⟨M1, B1, M2, B2, h1.bel hb, h2.bel hb, h3⟩, fun i hi => Nat.lt_of_lt_of_le (h.lt i hi) hb.size⟩, hb.kp h.lt⟩
theorem Pr.more {C : Nat} {G : Nat → Prop} {W W' : World} {pd px : Nat} {d x : PD} (h : Pr C G W pd px d x) (hb : Bel W W') : Pr C (fun i => G i ∨ (W.heap.size ≤ i ∧ i < W'.heap.size)) W' pd px d x := by
  obtain ⟨M1, B1, M2, B2, h1, h2, h3, h4, h5, h6, h7⟩ := h.ex
  refine ⟨⟨M1, B1, M2, B2, h1.bel hb, h2.bel hb, h3, h4, h5, fun i a b => ?_, fun i a b => ?_⟩, fun i hi => ?_⟩
  · rcases b with b | b
    · exact h6 i a b
    · have := h1.ltM i a; omega
  · rcases b with b | b
    · exact h7 i a b
    · have := h2.ltM i a; omega
  · rcases hi with hi | hi
    · exact Nat.lt_of_lt_of_le (h.lt i hi) hb.size
    · exact hi.2
theorem Pr.less {C : Nat} {G G' : Nat → Prop} {W : World} {pd px : Nat} {d x : PD} (h : Pr C G W pd px d x) (hg : ∀ i, G' i → G i) : Pr C G' W pd px d x := by
  obtain ⟨M1, B1, M2, B2, h1, h2, h3, h4, h5, h6, h7⟩ := h.ex
  exact ⟨⟨M1, B1, M2, B2, h1, h2, h3, h4, h5, fun i a b => h6 i a (hg i b), fun i a b => h7 i a (hg i b)⟩, fun i hi => h.lt i (hg i hi)⟩
theorem Pr.mono {C C' : Nat} {G : Nat → Prop} {W : World} {pd px : Nat} {d x : PD} (h : Pr C G W pd px d x) (hC : C ≤ C') : Pr C' G W pd px d x := by
  obtain ⟨M1, B1, M2, B2, h1, h2, h3⟩ := h.ex
  exact ⟨⟨M1, B1, M2, B2, h1.mono hC, h2.mono hC, h3⟩, h.lt⟩
/-- A call of the program's disk. -/
theorem Pr.call1 {C C' : Nat} {G : Nat → Prop} {W : World} {pd px : Nat} {d x d' : PD} {f : FuncId} {args : Array Value} {v : Value} (h : Pr C G W pd px d x) (hC : C ≤ C') (hc : ∀ M B, Dk C W pd d M B → Calls Try.prog f args W fun e w' => e = .returned v ∧ Aft C' W pd M B d' w') :
    Calls Try.prog f args W fun e w' => e = .returned v ∧ Pr C' G w' pd px d' x ∧ Kp G W w' := by
  obtain ⟨M1, B1, M2, B2, h1, h2, h3, h4, h5, h6, h7⟩ := h.ex
  exact (hc M1 B1 h1).mono fun _ _ ⟨he, ha⟩ => ⟨he, Pr.step1 hC h2 h3 h4 h5 h6 h7 h.lt ha⟩
/-- A call of the document's disk. -/
theorem Pr.call2 {C C' : Nat} {G : Nat → Prop} {W : World} {pd px : Nat} {d x x' : PD} {f : FuncId} {args : Array Value} {v : Value} (h : Pr C G W pd px d x) (hC : C ≤ C') (hc : ∀ M B, Dx C W px x M B → Calls Try.prog f args W fun e w' => e = .returned v ∧ Afx C' W px M B x' w') :
    Calls Try.prog f args W fun e w' => e = .returned v ∧ Pr C' G w' pd px d x' ∧ Kp G W w' := by
  obtain ⟨M1, B1, M2, B2, h1, h2, h3, h4, h5, h6, h7⟩ := h.ex
  exact (hc M2 B2 h2).mono fun _ _ ⟨he, ha⟩ => ⟨he, Pr.step2 hC h1 h3 h4 h5 h6 h7 h.lt ha⟩
end Go.Proofs.Ytpngcmlaimcceaa
