/- What small and inTerm return; rows of texts that a call builds. -/
import Derived.Test.YtomnajoflcjnfaaDoorTrmA
import Derived.Test.YtomnajoflcjnfaaDoorWalksD
import Derived.RangeFuncBox
import Derived.Sort.EncStr
namespace Go.Proofs.YtomnajoflcjnfaaDoor
open Go.RowKit
set_option maxRecDepth 100000 in
theorem small_any (c : UInt8) (w : World) : Calls Tryd.prog 54 #[vb c] w fun e w' => e = .returned (vb (sm c)) ∧ w' = w := by
  have hc : c.toNat < 256 := c.toNat_lt
  unfold vb
  rw [sm_nat]
  by_cases h : 65 ≤ c.toNat ∧ c.toNat ≤ 90
  · rw [if_pos h]
    have h1 : (65 : Int) ≤ (c.toNat : Int) := by omega
    have h2 : (c.toNat : Int) ≤ 90 := by omega
    have q1 : IntKind.u8.wrap ((c.toNat : Int) - 65) = (c.toNat : Int) - 65 := by rw [IntKind.wrap_u8]; omega
    have q2 : IntKind.u8.wrap ((c.toNat : Int) - 65 + 97) = ((c.toNat + 32 : Nat) : Int) := by rw [IntKind.wrap_u8]; omega
    clear hc
    go_enter Tryd.func54, Tryd.ntmps54
    go_wp2_with fail
    go_ret
    exact ⟨rfl, rfl⟩
  · rw [if_neg h]
    by_cases h1 : 65 ≤ c.toNat
    · have h2 : ¬ ((c.toNat : Int) ≤ 90) := by omega
      have h1' : (65 : Int) ≤ (c.toNat : Int) := by omega
      clear hc h h1
      go_enter Tryd.func54, Tryd.ntmps54
      go_wp2_with fail
      go_ret
      exact ⟨rfl, rfl⟩
    · have h1' : ¬ ((65 : Int) ≤ (c.toNat : Int)) := by omega
      clear hc h h1
      go_enter Tryd.func54, Tryd.ntmps54
      go_wp2_with fail
      go_ret
      exact ⟨rfl, rfl⟩
set_option maxRecDepth 100000 in
theorem inTerm_any (c : UInt8) (w : World) : Calls Tryd.prog 55 #[vb c] w fun e w' => e = .returned (.bool (inT c)) ∧ w' = w := by
  have hc : c.toNat < 256 := c.toNat_lt
  unfold vb
  go_enter Tryd.func55, Tryd.ntmps55
  go_wp2_with fail
  all_goals go_ret
  all_goals
    refine ⟨?_, rfl⟩
    show Ending.returned (Value.bool _) = _
    rw [inT]
    congr 2
    rw [Bool.eq_iff_iff]
    simp
    omega
end Go.Proofs.YtomnajoflcjnfaaDoor
