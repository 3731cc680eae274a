/- What the program's and the document's ReadNum, ReadInt and ReadText return; for every text. -/
import Derived.Test.YtgghcfmpfneehabDoorWalksB
import Derived.Deep.RegionHeld3
namespace Go.Proofs.YtgghcfmpfneehabDoor
open Go.RowKit
def n0 (s : ByteArray) : Nat := if h : 0 < s.size then (s[0]).toNat else 0
def n1 (s : ByteArray) : Nat := if h : 1 < s.size then (s[1]).toNat else 0
def rNum (s : ByteArray) : Nat × ByteArray × Int :=
  if s.size = 0 then (0, ⟨#[]⟩, 20) else if 8 < n0 s then (0, ⟨#[]⟩, 21) else if s.size < 1 + n0 s then (0, ⟨#[]⟩, 20)
  else if 0 < n0 s ∧ n1 s = 0 then (0, ⟨#[]⟩, 21) else (bg (s.extract 1 (1 + n0 s)).data.toList, s.extract (1 + n0 s) s.size, 0)
theorem n0_pos {s : ByteArray} (h : 0 < s.size) : n0 s = (s[0]).toNat := dif_pos h
theorem n1_pos {s : ByteArray} (h : 1 < s.size) : n1 s = (s[1]).toNat := dif_pos h
theorem rNum_cases (s : ByteArray) :
    (s.size = 0 ∧ rNum s = (0, ⟨#[]⟩, 20)) ∨
    (∃ h : 0 < s.size, 8 < (s[0]).toNat ∧ rNum s = (0, ⟨#[]⟩, 21)) ∨
    (∃ h : 0 < s.size, (s[0]).toNat ≤ 8 ∧ s.size < 1 + (s[0]).toNat ∧ rNum s = (0, ⟨#[]⟩, 20)) ∨
    (∃ h : 1 < s.size, (s[0]).toNat ≤ 8 ∧ 1 + (s[0]).toNat ≤ s.size ∧ 0 < (s[0]).toNat ∧ (s[1]).toNat = 0 ∧ rNum s = (0, ⟨#[]⟩, 21)) ∨
    (∃ h : 1 < s.size, (s[0]).toNat ≤ 8 ∧ 1 + (s[0]).toNat ≤ s.size ∧ 0 < (s[0]).toNat ∧ 0 < (s[1]).toNat ∧ rNum s = (bg (s.extract 1 (1 + (s[0]).toNat)).data.toList, s.extract (1 + (s[0]).toNat) s.size, 0)) ∨
    (∃ h : 0 < s.size, (s[0]).toNat = 0 ∧ rNum s = (bg (s.extract 1 (1 + (s[0]).toNat)).data.toList, s.extract (1 + (s[0]).toNat) s.size, 0)) := by
  by_cases h0 : s.size = 0
  · left; exact ⟨h0, by unfold rNum; rw [if_pos h0]⟩
  · have h : 0 < s.size := by omega
    right
    by_cases h8 : 8 < n0 s
    · left; refine ⟨h, by rw [← n0_pos]; exact h8, by unfold rNum; rw [if_neg h0, if_pos h8]⟩
    · right
      by_cases hs : s.size < 1 + n0 s
      · left; refine ⟨h, by rw [← n0_pos]; omega, by rw [← n0_pos]; exact hs, by unfold rNum; rw [if_neg h0, if_neg h8, if_pos hs]⟩
      · right
        by_cases hp : 0 < n0 s
        · have h1 : 1 < s.size := by omega
          by_cases hz : n1 s = 0
          · left; exact ⟨h1, by rw [← n0_pos]; omega, by rw [← n0_pos]; omega, by rw [← n0_pos]; omega, by rw [← n1_pos]; exact hz, by unfold rNum; rw [if_neg h0, if_neg h8, if_neg hs, if_pos ⟨hp, hz⟩]⟩
          · right; left
            exact ⟨h1, by rw [← n0_pos]; omega, by rw [← n0_pos]; omega, by rw [← n0_pos]; omega, by rw [← n1_pos]; omega, by unfold rNum; rw [if_neg h0, if_neg h8, if_neg hs, if_neg (fun q => hz q.2), n0_pos h]⟩
        · right; right
          exact ⟨h, by rw [← n0_pos]; omega, by unfold rNum; rw [if_neg h0, if_neg h8, if_neg hs, if_neg (fun q => hp q.1), n0_pos h]⟩
theorem ne_byte {c : UInt8} (h : 0 < c.toNat) : (((c.toNat : Nat) : Int) == 0) = false := by rw [beq_eq_false_iff_ne]; omega
theorem read_end (s : ByteArray) (n b : Nat) (w w' : World) (hb : Bel w w') (v : Value) (hv : v = .int .i64 0) :
    Ending.returned (.tuple #[.int .u64 (b : Int), .string (s.extract (1 + (n : Int)).toNat s.size), v]) = Ending.returned (.tuple #[.int .u64 (b : Int), .string (s.extract (1 + n) s.size), .int .i64 0]) ∧ Bel w w' := by
  have e : (1 + (n : Int)).toNat = 1 + n := by omega
  rw [e, hv]; exact ⟨rfl, hb⟩
theorem beq_empty (s : ByteArray) : s.toList.isEmpty = decide (s.size = 0) := by
  rw [ByteArray.toList_eq, Bool.eq_iff_iff, List.isEmpty_iff, decide_eq_true_iff, ← List.length_eq_zero_iff]
  rfl
end Go.Proofs.YtgghcfmpfneehabDoor
