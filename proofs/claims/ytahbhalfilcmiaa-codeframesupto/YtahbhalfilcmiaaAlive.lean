/- That some fixed answers which the document names are given: the helper 'alive' of every statement returns true. -/
import Derived.Test.YtahbhalfilcmiaaWalksC
import Derived.Test.YtahbhalfilcmiaaWalksD
import Derived.Test.YtahbhalfilcmiaaWalksE
namespace Go.Proofs.Ytahbhalfilcmiaa
open Go.RowKit
theorem one_num (w : World) : Calls Try.prog 20 #[.string ⟨#[1, 0]⟩] w fun e w' => e = .returned (.tuple #[.int .u64 0, .string ⟨#[]⟩, .int .i64 21]) ∧ Bel w w' := by
  have h := readNum_any ⟨#[1, 0]⟩ (by decide) w
  have e : rNum ⟨#[1, 0]⟩ = (0, ⟨#[]⟩, 21) := rfl
  rw [e] at h
  exact h
theorem num_256 (w : World) : Calls Try.prog 12 #[.int .u64 256] w fun e w' => e = .returned (.string ⟨#[2, 1, 0]⟩) ∧ Bel w w' := by
  have h := num_any 256 (by decide) w
  have e : num 256 = [2, 1, 0] := by decide +kernel
  rw [e] at h
  exact h
theorem key_a0b (w : World) : Calls Try.prog 18 #[.string ⟨#[97, 0, 98]⟩] w fun e w' => e = .returned (.string ⟨#[97, 0, 255, 98, 0, 1]⟩) ∧ Bel w w' := by
  have e : key [97, 0, 98] = [97, 0, 255, 98, 0, 1] := by decide
  have h := key_any ⟨#[97, 0, 98]⟩ (by show (key [97, 0, 98]).length ≤ _; rw [e]; decide) w
  rw [show (ByteArray.mk #[97, 0, 98]).data.toList = [97, 0, 98] from rfl, e] at h
  exact h
theorem text_ab (w : World) : Calls Try.prog 16 #[.string ⟨#[97, 98]⟩] w fun e w' => e = .returned (.string ⟨#[1, 2, 97, 98]⟩) ∧ Bel w w' := by
  have h := text_any ⟨#[97, 98]⟩ (by decide) w
  have e : num 2 = [1, 2] := by decide +kernel
  have e2 : text ⟨#[97, 98]⟩ = ⟨#[1, 2, 97, 98]⟩ := by
    unfold text
    rw [show (ByteArray.mk #[97, 98]).size = 2 from rfl, e]
    exact ByteArray.mk_append_mk [1, 2] [97, 98]
  rw [e2] at h
  exact h
theorem alive_any (w : World) : Calls Try.prog 9 #[] w fun e w' => e = .returned (.bool true) ∧ Bel w w' := by
  go_enter Try.func9, Try.ntmps9
  go_wp2_with fail
  refine (one_num _).mono ?_
  rintro e w1 ⟨rfl, b1⟩
  go_wp2_with fail
  refine (num_256 _).mono ?_
  rintro e w2 ⟨rfl, b2⟩
  go_wp2_with fail
  refine (key_a0b _).mono ?_
  rintro e w3 ⟨rfl, b3⟩
  go_wp2_with fail
  refine (text_ab _).mono ?_
  rintro e w4 ⟨rfl, b4⟩
  go_wp2
  go_ret
  exact ⟨rfl, ((b1.trans b2).trans b3).trans b4⟩
end Go.Proofs.Ytahbhalfilcmiaa
