/- What the document's Pred, and first and unless, return. -/
import Derived.Test.YtgghcfmpfneehabDoorTriA
namespace Go.Proofs.YtgghcfmpfneehabDoor
open Go.RowKit
theorem letter_true {c : UInt8} (h : ltB c = true) : (97 : Int) ≤ (c.toNat : Int) ∧ (c.toNat : Int) ≤ 122 := by
  simp [ltB] at h; omega
theorem nm_yes {c : UInt8} (h : nmB c = true) : (¬ (c.toNat : Int) < 97 ∧ ¬ (122 : Int) < (c.toNat : Int)) ∨ ((c.toNat : Int) < 97 ∧ ¬ (c.toNat : Int) < 48 ∧ ¬ (57 : Int) < (c.toNat : Int)) ∨
    ((c.toNat : Int) < 97 ∧ ¬ (c.toNat : Int) < 48 ∧ (57 : Int) < (c.toNat : Int) ∧ ((c.toNat : Int) != 95) = false) ∨ ((c.toNat : Int) < 97 ∧ (c.toNat : Int) < 48 ∧ ((c.toNat : Int) != 95) = true ∧ ((c.toNat : Int) != 46) = false) := by
  simp [nmB] at h
  simp only [bne_eq_false_iff_eq, bne_iff_ne]
  omega
theorem nm_no {c : UInt8} (h : nmB c = false) : ((c.toNat : Int) < 97 ∧ (c.toNat : Int) < 48 ∧ ((c.toNat : Int) != 95) = true ∧ ((c.toNat : Int) != 46) = true) ∨
    ((c.toNat : Int) < 97 ∧ ¬ (c.toNat : Int) < 48 ∧ (57 : Int) < (c.toNat : Int) ∧ ((c.toNat : Int) != 95) = true ∧ ((c.toNat : Int) != 46) = true) ∨
    (¬ (c.toNat : Int) < 97 ∧ (122 : Int) < (c.toNat : Int) ∧ ¬ (c.toNat : Int) < 48 ∧ (57 : Int) < (c.toNat : Int) ∧ ((c.toNat : Int) != 95) = true ∧ ((c.toNat : Int) != 46) = true) := by
  simp [nmB] at h
  simp only [bne_iff_ne]
  omega
theorem name_nil {s : ByteArray} (h : s.size = 0) : isName s.data.toList = false := by
  cases hl : s.data.toList with
  | nil => rfl
  | cons c r => have h2 : s.data.toList.length = s.size := rfl
                rw [hl] at h2; simp at h2; omega
theorem name_long {s : ByteArray} (h : 64 < s.size) : isName s.data.toList = false := by
  have h2 : s.data.toList.length = s.size := rfl
  have h3 : ¬ s.data.toList.length ≤ 64 := by omega
  unfold isName
  rw [decide_eq_false h3]; rfl
theorem name_short {s : ByteArray} (h : isName s.data.toList = true) : 0 < s.size ∧ s.size ≤ 64 := by
  constructor
  · apply Nat.pos_of_ne_zero; intro h0; rw [name_nil h0] at h; cases h
  · apply Nat.le_of_not_lt; intro h0; rw [name_long h0] at h; cases h
end Go.Proofs.YtgghcfmpfneehabDoor
