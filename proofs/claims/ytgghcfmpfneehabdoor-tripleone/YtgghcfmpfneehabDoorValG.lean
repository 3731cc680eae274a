/- What the library's ParseUint (base 16) and ParseInt (base 10) return, and the program's escaped and unquoted; for every text. -/
import Derived.Test.YtgghcfmpfneehabDoorValF
import Derived.Test.YtgghcfmpfneehabDoorOne
namespace Go.Proofs.YtgghcfmpfneehabDoor
open Go.RowKit
theorem okR.nil (M : Nat) : okR M [] 0 := ⟨by omega, by omega, fun h => absurd rfl h⟩
theorem intSat_bounds (l : List UInt8) : -9223372036854775808 ≤ Lib.intSat 64 l ∧ Lib.intSat 64 l < 9223372036854775808 := by
  unfold Lib.intSat
  split <;> decide
theorem bytesWorld_bel {w w' : World} (h : w' = w ∨ ∃ t, w' = Lib.bytesWorld w 5 t) : Bel w w' := by
  rcases h with rfl | ⟨t, rfl⟩
  · exact Bel.refl _
  · exact Lib.bytesWorld_below _ _ _
/-- What is known of the byte that an escape stands for, and of how many bytes say so. -/
def okE (l : List UInt8) (c : UInt8) (m : Nat) : Prop := 1 ≤ m ∧ m ≤ l.length ∧ ∀ d r, l = escB d ++ r → l.head? = some 92 → c = d ∧ m = (escB d).length
theorem escB_cases (d : UInt8) : ((d = 34 ∨ d = 92) ∧ escB d = [92, d]) ∨ (d ≠ 92 ∧ escB d = [d]) ∨ (d = 10 ∧ escB d = [92, 110]) ∨ escB d = [92, 120, hd (d.toNat / 16), hd (d.toNat % 16)] := by
  unfold escB
  by_cases h1 : d = 34 ∨ d = 92
  · exact Or.inl ⟨h1, by rw [if_pos h1]⟩
  · rw [if_neg h1]
    by_cases h2 : 32 ≤ d.toNat ∧ d.toNat ≤ 126
    · exact Or.inr (Or.inl ⟨fun h => h1 (Or.inr h), by rw [if_pos h2]⟩)
    · rw [if_neg h2]
      by_cases h3 : d = 10
      · exact Or.inr (Or.inr (Or.inl ⟨h3, by rw [if_pos h3]⟩))
      · exact Or.inr (Or.inr (Or.inr (by rw [if_neg h3])))
theorem okE_hex (l : List UInt8) (x : Int) (a b c e : UInt8) (r : List UInt8) (hl : l = a :: b :: c :: e :: r) (hb : b = 120) (hx : okR 255 [c, e] x) : okE l (UInt8.ofNat x.toNat) 4 := by
  refine ⟨by omega, by rw [hl]; simp, fun d r' hd' hh => ?_⟩
  subst hl hb
  rcases escB_cases d with ⟨h1, h2⟩ | ⟨h1, h2⟩ | ⟨h1, h2⟩ | h2
  · rw [h2] at hd'
    simp at hd'
    rcases h1 with rfl | rfl <;> exact absurd hd'.2.1 (by decide)
  · rw [h2] at hd'
    simp at hd' hh
    exact absurd (hd'.1.symm.trans hh) h1
  · rw [h2] at hd'
    simp at hd'
  · rw [h2] at hd' ⊢
    simp at hd'
    obtain ⟨_, hc, he, _⟩ := hd'
    have d256 := d.toNat_lt
    have hc1 : isHx c := by rw [hc]; exact hd_hx (by omega)
    have he1 : isHx e := by rw [he]; exact hd_hx (by omega)
    have hv2 : hexV [c, e] = d.toNat := by
      simp only [hexV, List.foldl]
      rw [hc, he, hv_hd (by omega), hv_hd (by omega)]; omega
    have := hx.2.2 (by simp) (by intro y hy; simp at hy; rcases hy with rfl | rfl <;> assumption) (by rw [hv2]; omega)
    rw [this, hv2]
    simp
theorem okE_two (l : List UInt8) (a b : UInt8) (r : List UInt8) (hl : l = a :: b :: r) (hn : ¬ (b = 120 ∧ 4 ≤ l.length)) : okE l (if b = 110 then 10 else b) 2 := by
  refine ⟨by omega, by rw [hl]; simp, fun d r' hd' hh => ?_⟩
  subst hl
  rcases escB_cases d with ⟨h1, h2⟩ | ⟨h1, h2⟩ | ⟨h1, h2⟩ | h2
  · rw [h2] at hd' ⊢
    simp at hd'
    obtain ⟨_, rfl, _⟩ := hd'
    rcases h1 with rfl | rfl <;> simp
  · rw [h2] at hd'
    simp at hd' hh
    exact absurd (hd'.1.symm.trans hh) h1
  · rw [h2] at hd' ⊢
    simp at hd'
    obtain ⟨_, rfl, _⟩ := hd'
    simp [h1]
  · rw [h2] at hd'
    exfalso
    apply hn
    simp at hd'
    obtain ⟨_, h3, h4⟩ := hd'
    exact ⟨h3, by rw [h4]; simp⟩
theorem okE_one (l : List UInt8) (a : UInt8) (hl : l = [a]) : okE l a 1 := by
  refine ⟨by omega, by rw [hl]; simp, fun d r' hd' hh => ?_⟩
  subst hl
  rcases escB_cases d with ⟨h1, h2⟩ | ⟨h1, h2⟩ | ⟨h1, h2⟩ | h2
  · rw [h2] at hd'; simp at hd'
  · rw [h2] at hd'
    simp at hd' hh
    exact absurd (hd'.1.symm.trans hh) h1
  · rw [h2] at hd'; simp at hd'
  · rw [h2] at hd'; simp at hd'
theorem list_two (s : ByteArray) (h : 2 ≤ s.size) : s.data.toList = s[0]'(by omega) :: s[1]'(by omega) :: s.data.toList.drop 2 := by
  have e1 := drop_cons s 0 (by omega)
  have e2 := drop_cons s 1 (by omega)
  rw [List.drop_zero] at e1
  rw [e2] at e1
  exact e1
theorem list_four (s : ByteArray) (h : 4 ≤ s.size) : s.data.toList = s[0]'(by omega) :: s[1]'(by omega) :: s[2]'(by omega) :: s[3]'(by omega) :: s.data.toList.drop 4 := by
  have e1 := list_two s (by omega)
  have e3 := drop_cons s 2 (by omega)
  have e4 := drop_cons s 3 (by omega)
  rw [e4] at e3
  rw [e3] at e1
  exact e1
theorem ext_two (s : ByteArray) (h : 4 ≤ s.size) : (s.extract 2 4).data.toList = [s[2]'(by omega), s[3]'(by omega)] := by
  rw [ba_extract]
  have e3 := drop_cons s 2 (by omega)
  have e4 := drop_cons s 3 (by omega)
  rw [e3, e4]
  rfl
/-- What is known while a text's literal is taken apart: l0, what stood between the quotes; out, what was gathered; l, what is left. -/
def okU (l0 out l : List UInt8) : Prop := out.length + l.length ≤ l0.length ∧ ∀ t, l0 = escs t → ∃ t2, t = out ++ t2 ∧ l = escs t2
theorem okU.start (l : List UInt8) : okU l [] l := ⟨by simp, fun t h => ⟨t, rfl, h⟩⟩
theorem okU.plain {l0 out l : List UInt8} (h : okU l0 out l) (c : UInt8) (r : List UInt8) (hl : l = c :: r) (hc : c ≠ 92) : okU l0 (out ++ [c]) r := by
  subst hl
  refine ⟨by have := h.1; simp at this ⊢; omega, fun t ht => ?_⟩
  obtain ⟨t2, e1, e2⟩ := h.2 t ht
  cases t2 with
  | nil => simp [escs] at e2
  | cons d t2 =>
    rw [escs_cons] at e2
    rcases escB_cases d with ⟨_, h2⟩ | ⟨_, h2⟩ | ⟨_, h2⟩ | h2
    · rw [h2] at e2; simp at e2; exact absurd e2.1 hc
    · rw [h2] at e2; simp at e2
      exact ⟨t2, by rw [e1, e2.1]; simp, e2.2⟩
    · rw [h2] at e2; simp at e2; exact absurd e2.1 hc
    · rw [h2] at e2; simp at e2; exact absurd e2.1 hc
theorem okU.esc {l0 out l : List UInt8} (h : okU l0 out l) (hh : l.head? = some 92) (c : UInt8) (m : Nat) (he : okE l c m) : okU l0 (out ++ [c]) (l.drop m) := by
  refine ⟨by have h1 := h.1; have h2 := he.1; have h3 := he.2.1; simp; omega, fun t ht => ?_⟩
  obtain ⟨t2, e1, e2⟩ := h.2 t ht
  cases t2 with
  | nil => rw [e2] at hh; simp [escs] at hh
  | cons d t2 =>
    rw [escs_cons] at e2
    obtain ⟨rfl, rfl⟩ := he.2.2 d _ e2 hh
    exact ⟨t2, by rw [e1]; simp, by rw [e2]; simp⟩
theorem okU.done {l0 out : List UInt8} (h : okU l0 out []) : out.length ≤ l0.length ∧ ∀ t, l0 = escs t → out = t := by
  refine ⟨by have := h.1; simpa using this, fun t ht => ?_⟩
  obtain ⟨t2, e1, e2⟩ := h.2 t ht
  cases t2 with
  | nil => simpa using e1.symm
  | cons d t2 =>
    rw [escs_cons] at e2
    have := (escB_len d).1
    have h3 := congrArg List.length e2
    simp at h3
    omega
end Go.Proofs.YtgghcfmpfneehabDoor
