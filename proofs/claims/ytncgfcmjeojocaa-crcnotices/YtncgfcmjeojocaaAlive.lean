/- That some fixed answers which the document names are given: the helper 'alive' of every statement returns true. -/
import Derived.Test.YtncgfcmjeojocaaWalksB
namespace Go.Proofs.Ytncgfcmjeojocaa
open Go.RowKit
theorem of_nine (w : World) : Calls Try.prog 8 #[.string ⟨#[49, 50, 51, 52, 53, 54, 55, 56, 57]⟩] w fun e w' => e = .returned (.int .u32 3421780262) ∧ w' = w := by
  have h := of_any ⟨#[49, 50, 51, 52, 53, 54, 55, 56, 57]⟩ (by decide) w
  have e : U (more 0#32 [49, 50, 51, 52, 53, 54, 55, 56, 57]) = 3421780262 := by rw [more_digits]; rfl
  simp only [e] at h
  exact h
theorem of_nil (w : World) : Calls Try.prog 8 #[.string ⟨#[]⟩] w fun e w' => e = .returned (.int .u32 0) ∧ w' = w := by
  have h := of_any ⟨#[]⟩ (by decide) w
  have e : U (more 0#32 []) = 0 := by decide
  simp only [e] at h
  exact h
theorem read_one (w : World) : Calls Try.prog 17 #[.string ⟨#[49]⟩] w fun e w' => e = .returned (.tuple #[.int .u32 0, .int .i64 2]) ∧ w' = w := by
  have h := read_any ⟨#[49]⟩ (by decide) w
  have e : rdv ⟨#[49]⟩ = (0#32, 2) := rfl
  rw [e] at h
  exact h
theorem text_one (w : World) : Calls Try.prog 19 #[.int .u32 1] w fun e w' => e = .returned (.string ⟨#[48, 48, 48, 48, 48, 48, 48, 49]⟩) ∧ Grown w w' := by
  have h := text_any 1#32 w
  have e : (hex 1#32).toArray = #[48, 48, 48, 48, 48, 48, 48, 49] := by decide
  rw [e] at h
  exact h
theorem alive_any (w : World) : Calls Try.prog 12 #[] w fun e w' => e = .returned (.bool true) ∧ Grown w w' := by
  go_enter Try.func12, Try.ntmps12
  go_wp2_with fail
  refine (read_one _).mono ?_
  rintro e w1 ⟨rfl, rfl⟩
  go_wp2_with fail
  refine (of_nine _).mono ?_
  rintro e w2 ⟨rfl, rfl⟩
  go_wp2_with fail
  refine (of_nil _).mono ?_
  rintro e w3 ⟨rfl, rfl⟩
  go_wp2_with fail
  refine (text_one _).mono ?_
  rintro e w4 ⟨rfl, hg⟩
  go_wp2
  go_ret
  exact ⟨rfl, hg⟩
end Go.Proofs.Ytncgfcmjeojocaa
