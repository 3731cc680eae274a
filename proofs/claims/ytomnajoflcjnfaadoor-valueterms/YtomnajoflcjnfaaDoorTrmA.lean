/- The terms of a text, plain: what is gathered, and that a term's terms are itself; two rising lists of the same members are one. -/
import Derived.Test.YtomnajoflcjnfaaDoorOwn
import Derived.Sort.Walk0
import Derived.Lib.SlicesCompact
namespace Go.Proofs.YtomnajoflcjnfaaDoor
open Go.RowKit
def sm (c : UInt8) : UInt8 := if 65 ≤ c.toNat ∧ c.toNat ≤ 90 then c + 32 else c
def inT (c : UInt8) : Bool := decide ((97 ≤ c.toNat ∧ c.toNat ≤ 122) ∨ (48 ≤ c.toNat ∧ c.toNat ≤ 57) ∨ 127 < c.toNat)
def flush (L : List (List UInt8)) (R : List UInt8) : List (List UInt8) := if R = [] then L else L ++ [R.take 64]
def gat : List UInt8 → List (List UInt8) → List UInt8 → List (List UInt8)
  | [], L, R => flush L R
  | c :: s, L, R => if inT (sm c) then gat s L (R ++ [sm c]) else gat s (flush L R) []
theorem sm_nat (c : UInt8) : (sm c).toNat = if 65 ≤ c.toNat ∧ c.toNat ≤ 90 then c.toNat + 32 else c.toNat := by
  unfold sm
  split
  · rename_i h
    rw [UInt8.toNat_add]
    show (c.toNat + 32) % 256 = _
    omega
  · rfl
theorem sm_sm (c : UInt8) : sm (sm c) = sm c := by
  apply UInt8.toNat_inj.1
  rw [sm_nat (sm c), sm_nat c]
  repeat' split
  all_goals omega
/-- A term: 1 to 64 bytes that may stand in one. -/
def isTm (t : List UInt8) : Prop := t ≠ [] ∧ t.length ≤ 64 ∧ ∀ c ∈ t, inT c = true ∧ sm c = c
theorem flush_tm {L : List (List UInt8)} {R : List UInt8} (hL : ∀ t ∈ L, isTm t) (hR : ∀ c ∈ R, inT c = true ∧ sm c = c) : ∀ t ∈ flush L R, isTm t := by
  unfold flush
  split
  · exact hL
  · rename_i h
    intro t ht
    rcases List.mem_append.1 ht with h1 | h1
    · exact hL t h1
    · rw [List.mem_singleton.1 h1]
      refine ⟨?_, by rw [List.length_take]; omega, fun c hc => hR c (List.mem_of_mem_take hc)⟩
      cases R with
      | nil => exact absurd rfl h
      | cons a r => simp
theorem gat_tm : ∀ (s : List UInt8) (L : List (List UInt8)) (R : List UInt8), (∀ t ∈ L, isTm t) → (∀ c ∈ R, inT c = true ∧ sm c = c) → ∀ t ∈ gat s L R, isTm t
  | [], L, R, hL, hR => flush_tm hL hR
  | c :: s, L, R, hL, hR => by
    unfold gat
    split
    · rename_i h
      refine gat_tm s L (R ++ [sm c]) hL (fun d hd => ?_)
      rcases List.mem_append.1 hd with h1 | h1
      · exact hR d h1
      · rw [List.mem_singleton.1 h1]; exact ⟨h, sm_sm c⟩
    · exact gat_tm s _ [] (flush_tm hL hR) (by simp)
theorem gat_one : ∀ (t R : List UInt8), (∀ c ∈ t, inT c = true ∧ sm c = c) → gat t [] R = flush [] (R ++ t)
  | [], R, _ => by simp [gat]
  | c :: s, R, h => by
    have hc := h c (by simp)
    rw [gat, hc.2, if_pos hc.1, gat_one s (R ++ [c]) (fun d hd => h d (by simp [hd]))]
    simp
/-- A term's terms are itself. -/
theorem terms_one {t : List UInt8} (h : isTm t) : gat t [] [] = [t] := by
  rw [gat_one t [] h.2.2, List.nil_append]
  unfold flush
  rw [if_neg h.1, List.take_of_length_le h.2.1]
  rfl
theorem flush_len (L : List (List UInt8)) (R : List UInt8) : (flush L R).length ≤ L.length + 1 := by
  unfold flush
  split <;> simp
/-- Rising, each once. -/
def ris (l : List (List UInt8)) : Prop := l.Pairwise (· < ·)
theorem lt_irr (a : List UInt8) : ¬ a < a := List.lt_irrefl a
theorem ris_ext : ∀ (a b : List (List UInt8)), ris a → ris b → (∀ x, x ∈ a ↔ x ∈ b) → a = b
  | [], [], _, _, _ => rfl
  | [], y :: b, _, _, h => by have := (h y).2 (by simp); simp at this
  | x :: a, [], _, _, h => by have := (h x).1 (by simp); simp at this
  | x :: a, y :: b, ha, hb, h => by
    obtain ⟨ha1, ha2⟩ := List.pairwise_cons.1 ha
    obtain ⟨hb1, hb2⟩ := List.pairwise_cons.1 hb
    have hxy : x = y := by
      rcases List.mem_cons.1 ((h x).1 (by simp)) with h1 | h1
      · exact h1
      · rcases List.mem_cons.1 ((h y).2 (by simp)) with h2 | h2
        · exact h2.symm
        · exact absurd (List.lt_trans (hb1 x h1) (ha1 y h2)) (lt_irr y)
    subst hxy
    rw [ris_ext a b ha2 hb2 (fun z => ⟨fun hz => ?_, fun hz => ?_⟩)]
    · rcases List.mem_cons.1 ((h z).1 (List.mem_cons_of_mem _ hz)) with h1 | h1
      · rw [h1] at hz; exact absurd (ha1 x hz) (lt_irr x)
      · exact h1
    · rcases List.mem_cons.1 ((h z).2 (List.mem_cons_of_mem _ hz)) with h1 | h1
      · rw [h1] at hz; exact absurd (hb1 x hz) (lt_irr x)
      · exact h1
/-- Of a list that does not fall, made compact: rising, of the same members. -/
theorem compactUpTo_ris (d : Array (List UInt8)) (hd : ∀ i j, i ≤ j → j < d.size → d[i]! ≤ d[j]!) : ∀ m, m ≤ d.size →
    ris (Lib.compactUpTo d m) ∧ (∀ x, x ∈ Lib.compactUpTo d m ↔ ∃ j, j < m ∧ d[j]! = x)
  | 0, _ => by simp [Lib.compactUpTo, ris]
  | m + 1, hm => by
    obtain ⟨h1, h2⟩ := compactUpTo_ris d hd m (by omega)
    rw [Lib.compactUpTo_succ]
    cases hk : Lib.keeps d m with
    | true =>
      simp only [if_true]
      refine ⟨List.pairwise_append.2 ⟨h1, by simp, fun a ha b hb => ?_⟩, fun x => ?_⟩
      · rw [List.mem_singleton.1 hb]
        obtain ⟨j, hj, rfl⟩ := (h2 a).1 ha
        have hne : d[m]! ≠ d[m - 1]! := by
          have := of_decide_eq_true hk
          rcases this with h | h
          · omega
          · exact h
        have h3 := hd j (m - 1) (by omega) (by omega)
        have h4 := hd (m - 1) m (by omega) (by omega)
        refine List.lt_of_le_of_lt h3 ?_
        rcases List.le_iff_lt_or_eq.1 h4 with h5 | h5
        · exact h5
        · exact absurd h5.symm hne
      · rw [List.mem_append, h2, List.mem_singleton]
        constructor
        · rintro (⟨j, hj, e⟩ | e)
          · exact ⟨j, by omega, e⟩
          · exact ⟨m, by omega, e.symm⟩
        · rintro ⟨j, hj, e⟩
          by_cases hjm : j = m
          · right; rw [← e, hjm]
          · left; exact ⟨j, by omega, e⟩
    | false =>
      rw [if_neg (by simp), List.append_nil]
      refine ⟨h1, fun x => ?_⟩
      have hk' : ¬ (m = 0 ∨ d[m]! ≠ d[m - 1]!) := of_decide_eq_false hk
      have hm0 : m ≠ 0 := fun h => hk' (Or.inl h)
      have he : d[m]! = d[m - 1]! := Classical.byContradiction fun h => hk' (Or.inr h)
      rw [h2]
      constructor
      · rintro ⟨j, hj, e⟩
        exact ⟨j, by omega, e⟩
      · rintro ⟨j, hj, e⟩
        by_cases hjm : j = m
        · exact ⟨m - 1, by omega, by rw [← he, ← hjm]; exact e⟩
        · exact ⟨j, by omega, e⟩
theorem sorted_ris (l : List (List UInt8)) : ris (Lib.compact (l.mergeSort fun x y => decide (x ≤ y))) ∧ ∀ x, x ∈ Lib.compact (l.mergeSort fun x y => decide (x ≤ y)) ↔ x ∈ l := by
  have hs : (l.mergeSort fun x y => decide (x ≤ y)).Pairwise (fun a b => decide (a ≤ b) = true) := List.pairwise_mergeSort (fun a b c h1 h2 => by
      simp only [decide_eq_true_eq] at *
      exact List.le_trans h1 h2) (fun a b => by
      simp only [Bool.or_eq_true, decide_eq_true_eq]
      exact List.le_total a b) l
  have hp : (l.mergeSort fun x y => decide (x ≤ y)).Perm l := List.mergeSort_perm l _
  generalize l.mergeSort (fun x y => decide (x ≤ y)) = z at *
  have h := compactUpTo_ris z.toArray (fun i j hij hj => by
    have hj' : j < z.length := by simpa using hj
    rw [getElem!_pos _ i (by simp; omega), getElem!_pos _ j hj]
    by_cases he : i = j
    · subst he; exact List.le_refl _
    · have := List.pairwise_iff_getElem.1 hs i j (by omega) hj' (by omega)
      simpa using this) z.length (by simp)
  refine ⟨h.1, fun x => (h.2 x).trans ⟨?_, fun hx => ?_⟩⟩
  · rintro ⟨j, hj, rfl⟩
    rw [getElem!_pos _ j (by simpa using hj)]
    exact hp.mem_iff.1 (by simp)
  · obtain ⟨j, hj, e⟩ := List.mem_iff_getElem.1 (hp.mem_iff.2 hx)
    exact ⟨j, hj, by rw [getElem!_pos _ j (by simpa using hj)]; simpa using e⟩
end Go.Proofs.YtomnajoflcjnfaaDoor
