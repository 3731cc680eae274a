/- Messages under way, plain. -/
import Derived.KernelRfl
namespace Go.Proofs.Ytbcgikkdhfbphaa
theorem pw_im {α : Type} {R S : α → α → Prop} (hRS : ∀ {a b}, R a b → S a b) {l : List α} (h : l.Pairwise R) : l.Pairwise S := by
  induction l with
  | nil => simp
  | cons x t ih =>
    rw [List.pairwise_cons] at h ⊢
    exact ⟨fun y hy => hRS (h.1 y hy), ih h.2⟩
theorem or_to {a b c d : Prop} (h : a ∨ b) (f : a → c) (g : b → d) : c ∨ d := h.elim (fun x => Or.inl (f x)) (fun x => Or.inr (g x))
/-- A message: from, to, its bytes. -/
abbrev Pk := Int × Int × ByteArray
/-- The bytes of a link's messages, in their order. -/
def qs : List Pk → Int → Int → List ByteArray
  | [], _, _ => []
  | p :: L, a, b => if p.1 = a ∧ p.2.1 = b then p.2.2 :: qs L a b else qs L a b
/-- Without the i-th message of a link. -/
def rem : List Pk → Int → Int → Nat → List Pk
  | [], _, _, _ => []
  | p :: L, a, b, i => if p.1 = a ∧ p.2.1 = b then (match i with | 0 => L | i + 1 => p :: rem L a b i) else p :: rem L a b i
/-- Where the i-th message of a link stands. -/
def fnd : List Pk → Int → Int → Nat → Option Nat
  | [], _, _, _ => none
  | p :: L, a, b, i => if p.1 = a ∧ p.2.1 = b then (match i with | 0 => some 0 | i + 1 => (fnd L a b i).map (· + 1)) else (fnd L a b i).map (· + 1)
theorem qs_app (L M : List Pk) (a b : Int) : qs (L ++ M) a b = qs L a b ++ qs M a b := by
  induction L with
  | nil => rfl
  | cons p L ih => simp only [List.cons_append, qs]; split <;> simp [ih]
theorem qs_snoc (L : List Pk) (a b : Int) (t : ByteArray) : qs (L ++ [(a, b, t)]) a b = qs L a b ++ [t] := by
  rw [qs_app]; simp [qs]
theorem qs_snoc_ne (L : List Pk) {a b c d : Int} (t : ByteArray) (h : ¬ (a = c ∧ b = d)) : qs (L ++ [(a, b, t)]) c d = qs L c d := by
  rw [qs_app]; simp [qs, h]
theorem qs_len (L : List Pk) (a b : Int) : (qs L a b).length ≤ L.length := by
  induction L with
  | nil => simp [qs]
  | cons p L ih => simp only [qs]; split <;> simp <;> omega
theorem qs_rem (L : List Pk) (a b : Int) (i : Nat) : qs (rem L a b i) a b = (qs L a b).eraseIdx i := by
  induction L generalizing i with
  | nil => simp [qs, rem]
  | cons p L ih =>
    by_cases h : p.1 = a ∧ p.2.1 = b
    · cases i with
      | zero => simp [rem, qs, h]
      | succ i => simp [rem, qs, h, ih]
    · simp [rem, qs, h, ih]
theorem qs_rem_ne (L : List Pk) {a b c d : Int} (i : Nat) (h : ¬ (a = c ∧ b = d)) : qs (rem L a b i) c d = qs L c d := by
  induction L generalizing i with
  | nil => simp [qs, rem]
  | cons p L ih =>
    by_cases h1 : p.1 = a ∧ p.2.1 = b
    · have h2 : ¬ (p.1 = c ∧ p.2.1 = d) := fun h3 => h ⟨h1.1.symm.trans h3.1, h1.2.symm.trans h3.2⟩
      have h3 : ¬ (a = c ∧ b = d) := h
      cases i with
      | zero => simp only [rem, qs, h1, and_self, if_true, h3, if_false]
      | succ i => simp only [rem, qs, h1, and_self, if_true, h3, if_false, ih]
    · simp only [rem, h1, if_false, qs, ih]
theorem rem_len (L : List Pk) (a b : Int) (i : Nat) (h : i < (qs L a b).length) : (rem L a b i).length + 1 = L.length := by
  induction L generalizing i with
  | nil => simp [qs] at h
  | cons p L ih =>
    by_cases h1 : p.1 = a ∧ p.2.1 = b
    · cases i with
      | zero => simp [rem, h1]
      | succ i => simp [qs, h1] at h; simp [rem, h1, ih i h]
    · simp [qs, h1] at h
      simp [rem, h1, ih i h]
theorem fnd_some (L : List Pk) (a b : Int) (i : Nat) (h : i < (qs L a b).length) : ∃ k, fnd L a b i = some k ∧ ∃ hk : k < L.length, L[k] = (a, b, (qs L a b)[i]) ∧ rem L a b i = L.take k ++ L.drop (k + 1) := by
  induction L generalizing i with
  | nil => simp [qs] at h
  | cons p L ih =>
    by_cases h1 : p.1 = a ∧ p.2.1 = b
    · cases i with
      | zero =>
        refine ⟨0, by simp [fnd, h1], by simp, ?_, by simp [rem, h1]⟩
        obtain ⟨x, y, z⟩ := p
        obtain ⟨rfl, rfl⟩ := h1
        simp [qs]
      | succ i =>
        simp [qs, h1] at h
        obtain ⟨k, e1, hk, e2, e3⟩ := ih i h
        exact ⟨k + 1, by simp [fnd, h1, e1], by simpa using hk, by simpa [qs, h1] using e2, by simp [rem, h1, e3]⟩
    · simp [qs, h1] at h
      obtain ⟨k, e1, hk, e2, e3⟩ := ih i h
      exact ⟨k + 1, by simp [fnd, h1, e1], by simpa using hk, by simpa [qs, h1] using e2, by simp [rem, h1, e3]⟩
theorem fnd_none (L : List Pk) (a b : Int) (i : Nat) (h : (qs L a b).length ≤ i) : fnd L a b i = none := by
  induction L generalizing i with
  | nil => simp [fnd]
  | cons p L ih =>
    by_cases h1 : p.1 = a ∧ p.2.1 = b
    · cases i with
      | zero => simp [qs, h1] at h
      | succ i => simp [qs, h1] at h; simp [fnd, h1, ih i h]
    · simp [qs, h1] at h
      simp [fnd, h1, ih i h]
/-- A machine: ticks, state, side. -/
abbrev Mc := Int × Int × Bool
/-- A net. -/
structure PN where
  ms : List Mc
  L : List Pk
/-- A machine's number? -/
def PN.may (s : PN) (a : Int) : Prop := 1 ≤ a ∧ a ≤ s.ms.length
end Go.Proofs.Ytbcgikkdhfbphaa
