/- A net and the document's net, side by side. -/
import Derived.Test.YtbcgikkdhfbphaaStn
import Derived.Test.YtbcgikkdhfbphaaAli
namespace Go.Proofs.Ytbcgikkdhfbphaa
open Go.RowKit Go.Maps
/-- Both in one memory, in blocks of Z, apart. -/
def Pr (C : Nat) (W : World) (p q : Nat) (s t : PN) (Z : Nat → Prop) : Prop := ∃ M K, Nt C W p s M ∧ Rf W q t K ∧ (∀ i, M i → K i → False) ∧ (∀ i, M i → Z i) ∧ (∀ i, K i → Z i) ∧ ∀ i, Z i → i < W.heap.size
/-- What a call upon one of them leaves. -/
def Ap2 (C : Nat) (W : World) (p q : Nat) (Z : Nat → Prop) (s t : PN) (w' : World) : Prop := ∃ Z', Pr C w' p q s t Z' ∧ (∀ i, Z' i → Z i ∨ W.heap.size ≤ i) ∧ Ch Z W w'
section
variable {C C' : Nat} {W W' W'' : World} {p q : Nat} {s t s' t' : PN} {Z : Nat → Prop}
theorem Pr.bel (h : Pr C W p q s t Z) (hb : Bel W W') : Pr C W' p q s t Z := by
  obtain ⟨M, K, h1, h2, h3, h4, h5, h6⟩ := h
  exact ⟨M, K, h1.bel hb, h2.bel hb, h3, h4, h5, fun i hi => Nat.lt_of_lt_of_le (h6 i hi) hb.size⟩
theorem Pr.lt (h : Pr C W p q s t Z) : ∀ i, Z i → i < W.heap.size := by
  obtain ⟨M, K, h1, h2, h3, h4, h5, h6⟩ := h
  exact h6
theorem Pr.ch {X : Nat → Prop} (h : Pr C W p q s t Z) (hc : Ch X W W') (hd : ∀ i, Z i → X i → False) : Pr C W' p q s t Z := by
  obtain ⟨M, K, h1, h2, h3, h4, h5, h6⟩ := h
  exact ⟨M, K, h1.ch hc (fun i a b => hd i (h4 i a) b), h2.ch hc (fun i a b => hd i (h5 i a) b), h3, h4, h5, fun i hi => Nat.lt_of_lt_of_le (h6 i hi) hc.size⟩
theorem Pr.mono (h : Pr C W p q s t Z) (hc : C ≤ C') : Pr C' W p q s t Z := by
  obtain ⟨M, K, h1, h2, h3⟩ := h
  exact ⟨M, K, h1.mono hc, h2, h3⟩
theorem Pr.same (h : Pr C W p q s t Z) (hb : Bel W W') : Ap2 C W p q Z s t W' := ⟨Z, h.bel hb, fun _ hi => Or.inl hi, hb.ch Z⟩
theorem Ap2.mono (h : Ap2 C W p q Z s t W') (hc : C ≤ C') : Ap2 C' W p q Z s t W' := by
  obtain ⟨Z', h1, h2⟩ := h
  exact ⟨Z', h1.mono hc, h2⟩
theorem Ap2.bel (h : Ap2 C W p q Z s t W') (hb : Bel W' W'') : Ap2 C W p q Z s t W'' := by
  obtain ⟨Z', h1, h2, h3⟩ := h
  exact ⟨Z', h1.bel hb, h2, h3.bel hb⟩
theorem Ap2.from (h : Ap2 C W' p q Z s t W'') (hb : Bel W W') : Ap2 C W p q Z s t W'' := by
  obtain ⟨Z', h1, h2, h3⟩ := h
  exact ⟨Z', h1, fun i hi => or_to (h2 i hi) id (fun h => Nat.le_trans hb.size h), (hb.ch Z).trans h3 (fun i hi => Or.inl hi)⟩
/-- A block that was made behind them stands. -/
theorem Ap2.row {B : Nat} (h : Ap2 C W p q Z s t W') (hZ : ∀ i, Z i → i < B) {o : Obj} {B' : Nat} (hB : B ≤ B') (hr : W.heap[B']? = some o) : W'.heap[B']? = some o := by
  obtain ⟨Z', h1, h2, h3⟩ := h
  exact h3.row hr (fun hz => by have := hZ _ hz; omega)
theorem Pr.prog {f : FuncId} {args : Array Value} {v : Value} (h : Pr C W p q s t Z) (k : ∀ M, Nt C W p s M → (∀ i, M i → Z i) → Calls Try.prog f args W fun e w' => e = .returned v ∧ Aft C' W p M s' w') : Calls Try.prog f args W fun e w' => e = .returned v ∧ Ap2 C' W p q Z s' t w' := by
  obtain ⟨M, K, h1, h2, h3, h4, h5, h6⟩ := h
  refine (k M h1 h4).mono (fun e w' ⟨he, M', k1, k2, k3⟩ => ⟨he, fun i => M' i ∨ K i, ⟨M', K, k1, h2.ch k3 (fun i a b => h3 i b a), fun i a b => ?_, fun i a => Or.inl a, fun i a => Or.inr a, fun i hi => hi.elim (k1.ltM i) (fun a => Nat.lt_of_lt_of_le (h6 i (h5 i a)) k3.size)⟩, fun i hi => hi.elim (fun a => or_to (k2 i a) (h4 i) id) (fun a => Or.inl (h5 i a)), k3.mono h4⟩)
  rcases k2 i a with h' | h'
  · exact h3 i h' b
  · have := h6 i (h5 i b); omega
theorem Pr.doc {f : FuncId} {args : Array Value} {v : Value} (h : Pr C W p q s t Z) (k : ∀ K, Rf W q t K → (∀ i, K i → Z i) → Calls Try.prog f args W fun e w' => e = .returned v ∧ Afr W q K t' w') : Calls Try.prog f args W fun e w' => e = .returned v ∧ Ap2 C W p q Z s t' w' := by
  obtain ⟨M, K, h1, h2, h3, h4, h5, h6⟩ := h
  refine (k K h2 h5).mono (fun e w' ⟨he, K', k1, k2, k3⟩ => ⟨he, fun i => M i ∨ K' i, ⟨M, K', h1.ch k3 (fun i a b => h3 i a b), k1, fun i a b => ?_, fun i a => Or.inl a, fun i a => Or.inr a, fun i hi => hi.elim (fun a => Nat.lt_of_lt_of_le (h6 i (h4 i a)) k3.size) (k1.ltM i)⟩, fun i hi => hi.elim (fun a => Or.inl (h4 i a)) (fun a => or_to (k2 i a) (h5 i) id), k3.mono h5⟩)
  rcases k2 i b with h' | h'
  · exact h3 i a h'
  · have := h6 i (h4 i a); omega
/-- One call behind another. -/
theorem Ap2.then {f : FuncId} {args : Array Value} {v : Value} (h : Ap2 C W p q Z s t W') (k : ∀ Z', Pr C W' p q s t Z' → (∀ i, Z' i → Z i ∨ W.heap.size ≤ i) → Calls Try.prog f args W' fun e w' => e = .returned v ∧ Ap2 C' W' p q Z' s' t' w') : Calls Try.prog f args W' fun e w' => e = .returned v ∧ Ap2 C' W p q Z s' t' w' := by
  obtain ⟨Z', h1, h2, h3⟩ := h
  refine (k Z' h1 h2).mono (fun e w' ⟨he, Z'', k1, k2, k3⟩ => ⟨he, Z'', k1, fun i hi => (k2 i hi).elim (h2 i) (fun h' => Or.inr (Nat.le_trans h3.size h')), h3.trans k3 h2⟩)
end
end Go.Proofs.Ytbcgikkdhfbphaa
