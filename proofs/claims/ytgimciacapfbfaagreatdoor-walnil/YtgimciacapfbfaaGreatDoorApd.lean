/- Records are added, one by one. -/
import Derived.Test.YtgimciacapfbfaaGreatDoorAdd
namespace Go.Proofs.YtgimciacapfbfaaGreatDoor
open Go.RowKit Go.Maps Go.WideMaps
theorem long_any (b : List UInt8) (h : b.length ≤ 1048576) (w : World) : Calls Tryz.prog 26 #[.string ⟨b.toArray⟩] w fun e w' => e = .returned (.bool false) ∧ w' = w := by
  have h' : ¬ (1048576 : Int) < (b.length : Int) := by omega
  go_enter Tryz.func26, Tryz.ntmps26
  go_wp2_with fail
  go_ret
  exact ⟨by simp, rfl⟩
/-- Texts as they lie in memory. -/
def RowS (W : World) (g off : Nat) (l : List (List UInt8)) : Prop := ∀ j (h : j < l.length), W.cell? ⟨g, off + j, none⟩ = some (.string ⟨l[j].toArray⟩)
theorem en26 : En 26 := fun _ _ => by kernel_rfl
set_option maxRecDepth 100000 in
theorem index_any (l : List (List UInt8)) (N cap g off : Nat) (a : Option Addr) (hN : l.length = N) (hl : N ≤ 100000) (ha : N ≠ 0 → a = some ⟨g, off, none⟩) (w : World) (hrow : RowS w g off l) (hok : ∀ s ∈ l, s.length ≤ 1048576) :
    Calls Tryz.prog 49 #[.slice a N cap, .func (.func 26) #[] #[]] w fun e w' => e = .returned (.int .i64 (-1)) ∧ w' = w := by
  have HN := hide hN
  have HA := hide ha
  have HROW := hide hrow
  have HOK := hide hok
  have hen : ∀ (args : Array Value) (W : World), (callFunc 26 args).run Tryz.prog W = .ok (.enter 26 args) W := en26
  clear hN ha hrow hok
  go_enter Tryz.func49, Tryz.ntmps49
  go_wp2_with fail
  go_loop [5, 8] (fun _ vi => ∃ k : Nat, k ≤ N ∧ vi = .int .i64 k) (fun _ vi => N - (intOf vi).toNat)
  case atStart => exact ⟨0, Nat.zero_le _, rfl⟩
  case round =>
    obtain ⟨k, hk, rfl⟩ := hrel
    by_cases hlt : k < N
    · have hkl : k < l.length := by rw [HN.out]; exact hlt
      obtain rfl := HA.out (by omega)
      have x0 := (unhide HROW) k hkl
      have h26 := hide (long_any l[k] ((unhide HOK) l[k] (List.getElem_mem hkl)) w)
      generalize l[k] = s at x0 h26
      have hki : (k : Int) < (N : Int) := by omega
      go_wp2_with (go_at_call 26; refine (unhide h26).mono ?_; rintro e w5 ⟨rfl, rfl⟩)
      go_round
      case rel => exact ⟨k + 1, by omega, by go_num⟩
      case measure => simp [intOf]; omega
    · have hki : ¬ (k : Int) < (N : Int) := by omega
      go_wp2_with fail
      go_ret
      exact ⟨rfl, rfl⟩
theorem contains_any (l : List (List UInt8)) (N cap g off : Nat) (a : Option Addr) (hN : l.length = N) (hl : N ≤ 100000) (ha : N ≠ 0 → a = some ⟨g, off, none⟩) (w : World) (hrow : RowS w g off l) (hok : ∀ s ∈ l, s.length ≤ 1048576) :
    Calls Tryz.prog 25 #[.slice a N cap, .func (.func 26) #[] #[]] w fun e w' => e = .returned (.bool false) ∧ w' = w := by
  have h49 := hide (index_any l N cap g off a hN hl ha w hrow hok)
  clear hN ha hrow hok
  go_enter Tryz.func25, Tryz.ntmps25
  go_wp2_with (go_at_call 49; refine (unhide h49).mono ?_; rintro e w5 ⟨rfl, rfl⟩)
  go_ret
  exact ⟨rfl, rfl⟩
end Go.Proofs.YtgimciacapfbfaaGreatDoor
