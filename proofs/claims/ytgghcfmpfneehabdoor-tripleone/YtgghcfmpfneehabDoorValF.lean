/- What the library's ParseUint returns at base 16, of 64 bits and of 8: some number of that size; of small hexadecimal digits what they say; for every text. -/
import Derived.Test.YtgghcfmpfneehabDoorValE
import Derived.Lib.ConvBytes
import Derived.Lib.AtoiAllMem
import Derived.Laws.Closers25
import Derived.Laws.Closers25b
import Derived.Laws.Strings3
namespace Go.Proofs.YtgghcfmpfneehabDoor
open Go.RowKit
theorem or32_fin : ∀ n : Fin 256, 97 ≤ n.val → n.val ≤ 102 → n.val ||| 32 = n.val := by decide +kernel
theorem or32_low : ∀ n : Fin 256, n.val < 48 → n.val ||| 32 < 97 := by decide +kernel
theorem or32_lt : ∀ n : Fin 256, n.val ||| 32 < 256 := by decide +kernel
theorem or32 (c : UInt8) : bits .or .u8 (c.toNat : Int) 32 = ((c.toNat ||| 32 : Nat) : Int) := u8_or_nat c.toNat 32 c.toNat_lt (by decide)
/-- What is known of the number that stands for the bytes so far. -/
def okP (M : Nat) (t : List UInt8) (k : Nat) (a : Int) : Prop := 0 ≤ a ∧ a ≤ (M : Int) ∧ ((∀ c ∈ t, isHx c) → hexV t ≤ M → a = (hexV (t.take k) : Int))
/-- What is known of the answer. -/
def okR (M : Nat) (t : List UInt8) (x : Int) : Prop := 0 ≤ x ∧ x ≤ (M : Int) ∧ (t ≠ [] → (∀ c ∈ t, isHx c) → hexV t ≤ M → x = (hexV t : Int))
theorem okP.zero (M : Nat) (t : List UInt8) : okP M t 0 0 := ⟨by omega, by omega, fun _ _ => by simp [hexV]⟩
theorem okP.done {M : Nat} {t : List UInt8} {k : Nat} {a : Int} (h : okP M t k a) (hk : t.length ≤ k) : okR M t a :=
  ⟨h.1, h.2.1, fun _ h1 h2 => by have := h.2.2 h1 h2; rwa [List.take_of_length_le hk] at this⟩
theorem take_next (t : List UInt8) (k : Nat) (h : k < t.length) : t.take (k + 1) = t.take k ++ [t[k]] := by
  rw [List.take_succ_eq_append_getElem h]
theorem hexV_take_le (t : List UInt8) (k : Nat) : hexV (t.take k) ≤ hexV t := by
  have := hexV_app (t.take k) (t.drop k)
  rwa [List.take_append_drop] at this
theorem okP.next {M : Nat} {t : List UInt8} {k : Nat} {a : Int} (h : okP M t k a) (hk : k < t.length) (d : Int) (hd : isHx t[k] → d = (hv t[k] : Int)) (h0 : 0 ≤ a * 16 + d) (h1 : a * 16 + d ≤ (M : Int)) : okP M t (k + 1) (a * 16 + d) := by
  refine ⟨h0, h1, fun hx hm => ?_⟩
  rw [take_next t k hk, hexV_snoc, h.2.2 hx hm, hd (hx _ (List.getElem_mem hk))]
  simp
theorem okP.bad {M : Nat} {t : List UInt8} {k : Nat} {a : Int} (_ : okP M t k a) (hk : k < t.length) (hn : ¬ isHx t[k]) (x : Int) (h0 : 0 ≤ x) (h1 : x ≤ (M : Int)) : okR M t x :=
  ⟨h0, h1, fun _ hx _ => absurd (hx _ (List.getElem_mem hk)) hn⟩
theorem okP.far {M : Nat} {t : List UInt8} {k : Nat} {a : Int} (h : okP M t k a) (hk : k < t.length) (d : Int) (hd : isHx t[k] → d = (hv t[k] : Int)) (hf : (M : Int) < a * 16 + d) : okR M t (M : Int) :=
  ⟨by omega, by omega, fun _ hx hm => by
    have h1 := h.2.2 hx hm
    have h2 := hd (hx _ (List.getElem_mem hk))
    have h3 := hexV_take_le t (k + 1)
    rw [take_next t k hk, hexV_snoc] at h3
    omega⟩
theorem hv_dig {c : UInt8} (h1 : c.toNat ≤ 57) (h0 : 48 ≤ c.toNat) : ((c.toNat : Int) - 48) = (hv c : Int) := by
  unfold hv; rw [if_pos h1]; omega
theorem hv_let {c : UInt8} (v : Nat) (hv0 : 97 ≤ c.toNat → c.toNat ≤ 102 → v = c.toNat) (hn : ¬ (48 ≤ c.toNat ∧ c.toNat ≤ 57)) (h : isHx c) : ((v : Int) - 87) = (hv c : Int) := by
  rcases h with h | ⟨h0, h1⟩
  · exact absurd h hn
  · unfold hv; rw [if_neg (by omega), hv0 h0 h1]; omega
theorem not_hx {c : UInt8} (v : Nat) (hv0 : 97 ≤ c.toNat → c.toNat ≤ 102 → v = c.toNat) (hn : ¬ (48 ≤ c.toNat ∧ c.toNat ≤ 57)) (hl : v < 97 ∨ 103 ≤ v) : ¬ isHx c := by
  rintro (h | ⟨h0, h1⟩)
  · exact hn h
  · have := hv0 h0 h1; omega
end Go.Proofs.YtgghcfmpfneehabDoor
