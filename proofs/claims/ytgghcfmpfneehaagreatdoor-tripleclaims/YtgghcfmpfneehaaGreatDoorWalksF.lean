/- What the program's and the document's ReadInt and ReadText return; for every text. -/
import Derived.Test.YtgghcfmpfneehaaGreatDoorWalksE
namespace Go.Proofs.YtgghcfmpfneehaaGreatDoor
open Go.RowKit
def rInt (s : ByteArray) : Int × ByteArray × Int :=
  if s.size < 8 then (0, ⟨#[]⟩, 20) else ((bg (s.extract 0 8).data.toList : Int) - 9223372036854775808, s.extract 8 s.size, 0)
theorem low63 (b : Nat) (h : b < 18446744073709551616) : IntKind.i64.wrap (IntKind.u64.wrap ((b : Int) - 9223372036854775808)) = (b : Int) - 9223372036854775808 := by
  rw [IntKind.wrap_u64, IntKind.wrap_i64]; omega
theorem bg64 (s : ByteArray) (h : s.size ≤ 8) : bg s.data.toList < 18446744073709551616 := by
  have h1 := bg_lt s.data.toList
  have h2 : 256 ^ s.data.toList.length ≤ 256 ^ 8 := Nat.pow_le_pow_right (by omega) (by simpa using h)
  omega
theorem int_end (s : ByteArray) (b : Nat) (h : b < 18446744073709551616) (w w' : World) (hb : Bel w w') :
    Ending.returned (.tuple #[.int .i64 (IntKind.i64.wrap (IntKind.u64.wrap ((b : Int) - 9223372036854775808))), .string (s.extract 8 s.size), .int .i64 0]) = Ending.returned (.tuple #[.int .i64 ((b : Int) - 9223372036854775808), .string (s.extract 8 s.size), .int .i64 0]) ∧ Bel w w' := by
  rw [low63 b h]; exact ⟨rfl, hb⟩
theorem readInt_any (s : ByteArray) (hm : s.size ≤ 150000000000000) (w : World) :
    Calls Tryz.prog 58 #[.string s] w fun e w' => e = .returned (.tuple #[.int .i64 (rInt s).1, .string (rInt s).2.1, .int .i64 (rInt s).2.2]) ∧ Bel w w' := by
  by_cases h8 : s.size < 8
  · rw [show rInt s = (0, ⟨#[]⟩, 20) by unfold rInt; rw [if_pos h8]]
    go_enter Tryz.func58, Tryz.ntmps58
    go_wp2
    go_ret3
    exact ⟨rfl, Bel.refl _⟩
  · rw [show rInt s = ((bg (s.extract 0 8).data.toList : Int) - 9223372036854775808, s.extract 8 s.size, 0) by unfold rInt; rw [if_neg h8]]
    have c38 := fun W => number_any (s.extract 0 8) (by simp; omega) W
    have hb := hide (bg64 (s.extract 0 8) (by simp; omega))
    generalize bg (s.extract 0 8).data.toList = b at *
    have C38 := hide c38
    have f1 : (8 : Int) ≤ (s.size : Int) := by omega
    clear c38
    go_enter Tryz.func58, Tryz.ntmps58
    go_wp2_with fail
    go_region_held3 (fun _ => True) (trivial) ((go_at_call 56; refine (C38.out _).mono ?_; rintro e w'' ⟨rfl, rfl⟩))
    all_goals
      go_wp2
      go_ret3
      exact int_end s b hb.out _ _ (Bel.refl _).drew
theorem refReadInt_any (s : ByteArray) (hm : s.size ≤ 150000000000000) (w : World) :
    Calls Tryz.prog 63 #[.string s] w fun e w' => e = .returned (.tuple #[.int .i64 (rInt s).1, .string (rInt s).2.1, .int .i64 (rInt s).2.2]) ∧ Bel w w' := by
  by_cases h8 : s.size < 8
  · rw [show rInt s = (0, ⟨#[]⟩, 20) by unfold rInt; rw [if_pos h8]]
    go_enter Tryz.func63, Tryz.ntmps63
    go_wp2
    go_ret3
    exact ⟨rfl, Bel.refl _⟩
  · rw [show rInt s = ((bg (s.extract 0 8).data.toList : Int) - 9223372036854775808, s.extract 8 s.size, 0) by unfold rInt; rw [if_neg h8]]
    have c38 := fun W => big_any (s.extract 0 8) (by simp; omega) W
    have hb := hide (bg64 (s.extract 0 8) (by simp; omega))
    generalize bg (s.extract 0 8).data.toList = b at *
    have C38 := hide c38
    have f1 : (8 : Int) ≤ (s.size : Int) := by omega
    clear c38
    go_enter Tryz.func63, Tryz.ntmps63
    go_wp2_with fail
    go_region_held3 (fun _ => True) (trivial) ((go_at_call 62; refine (C38.out _).mono ?_; rintro e w'' ⟨rfl, rfl⟩))
    all_goals
      go_wp2
      go_ret3
      exact int_end s b hb.out _ _ (Bel.refl _).drew
theorem rNum_facts (s : ByteArray) : (rNum s).1 < 18446744073709551616 ∧ (rNum s).2.1.size ≤ s.size := by
  rcases rNum_cases s with ⟨h0, e⟩ | ⟨h0, h8, e⟩ | ⟨h0, h8, hs, e⟩ | ⟨h1, h8, hs, hp, hz, e⟩ | ⟨h1, h8, hs, hp, hz, e⟩ | ⟨h0, hp, e⟩
  all_goals rw [e]
  · exact ⟨by decide, Nat.zero_le _⟩
  · exact ⟨by decide, Nat.zero_le _⟩
  · exact ⟨by decide, Nat.zero_le _⟩
  · exact ⟨by decide, Nat.zero_le _⟩
  · exact ⟨bg64 _ (by simp; omega), by simp⟩
  · exact ⟨bg64 _ (by simp; omega), by simp⟩
end Go.Proofs.YtgghcfmpfneehaaGreatDoor
