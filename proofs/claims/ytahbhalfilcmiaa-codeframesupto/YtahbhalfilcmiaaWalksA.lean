/- What the program's and the document's register functions return: turn and step, More and Of; for every sum and every text. -/
import Derived.Test.YtahbhalfilcmiaaRows
import Derived.Test.YtahbhalfilcmiaaMath
import Derived.WalkKit
import Derived.WalkLawsBesides
import Derived.WalkSpells
namespace Go.Proofs.Ytahbhalfilcmiaa
open Go.RowKit

theorem turn_any (v : Int) (x : BitVec 32) (hv : v = U x) (w : World) :
    Calls Try.prog 45 #[.int .u32 v] w fun e w' => e = .returned (.int .u32 (U (turn x))) ∧ w' = w := by
  subst hv
  go_enter Try.func45, Try.ntmps45
  go_wp2
  go_loop [0, 3, 4] (fun r _ i => ∃ k : Nat, k ≤ 8 ∧ i = .int .i64 k ∧ r = .int .u32 (U (tbN k x))) (fun _ _ i => 8 - (intOf i).toNat)
  case atStart => exact ⟨0, Nat.zero_le _, rfl, rfl⟩
  case round =>
    obtain ⟨k, hk, rfl, rfl⟩ := hrel
    by_cases hlt : k < 8
    · go_wp2
      all_goals
        go_round
        case rel => exact ⟨k + 1, by omega, by go_num, by first | rw [tb_odd ‹_›]; rfl | rw [tb_even ‹_›]; rfl⟩
        case measure => simp [intOf]; omega
    · go_wp2
      go_ret
      have : k = 8 := by omega
      subst this
      exact ⟨rfl, rfl⟩

theorem step_any (v : Int) (x : BitVec 32) (hv : v = U x) (c : Int) (b : UInt8) (hc : c = (b.toNat : Int)) (w : World) :
    Calls Try.prog 44 #[.int .u32 v, .int .u8 c] w fun e w' => e = .returned (.int .u32 (U (turn (x ^^^ B b)))) ∧ w' = w := by
  subst hv
  have hb := b.toNat_lt
  subst hc
  have hx : bits .xor .u32 (U x) ((b.toNat : Nat) : Int) = U (x ^^^ B b) := by rw [U_B, U_xor]
  go_enter Try.func44, Try.ntmps44
  go_wp2
  go_loop [0, 5] (fun r i => ∃ k : Nat, k ≤ 8 ∧ i = .int .i64 k ∧ r = .int .u32 (U (tbN k (x ^^^ B b)))) (fun _ i => 8 - (intOf i).toNat)
  case atStart => exact ⟨0, Nat.zero_le _, rfl, rfl⟩
  case round =>
    obtain ⟨k, hk, rfl, rfl⟩ := hrel
    by_cases hlt : k < 8
    · go_wp2
      all_goals
        go_round
        case rel => exact ⟨k + 1, by omega, by go_num, by first | rw [tb_odd ‹_›]; rfl | rw [tb_even ‹_›]; rfl⟩
        case measure => simp [intOf]; omega
    · go_wp2
      go_ret
      have : k = 8 := by omega
      subst this
      exact ⟨rfl, rfl⟩

theorem more_any (v : Int) (x : BitVec 32) (hv : v = U x) (s : ByteArray) (hs : s.size ≤ maxLen) (w : World) :
    Calls Try.prog 42 #[.int .u32 v, .string s] w fun e w' => e = .returned (.int .u32 (U (more x s.data.toList))) ∧ w' = w := by
  subst hv
  unfold maxLen at hs
  have hn := U_not x
  go_enter Try.func42, Try.ntmps42
  go_wp2_with fail
  clear hn
  go_loop [5, 6, 11] (fun r _ i => ∃ k : Nat, k ≤ s.size ∧ i = .int .i64 k ∧ r = .int .u32 (U (feed (~~~x) (s.data.toList.take k)))) (fun _ _ i => s.size - (intOf i).toNat)
  case atStart => exact ⟨0, Nat.zero_le _, rfl, rfl⟩
  case round =>
    obtain ⟨k, hk, rfl, rfl⟩ := hrel
    by_cases hlt : k < s.size
    · have hb := (s[k]).toNat_lt
      go_wp2_with (go_at_call 45; refine (turn_any _ (feed (~~~x) (s.data.toList.take k) ^^^ B s[k]) (by rw [← U_xor, ← U_B]) _).mono ?_; rintro e w' ⟨rfl, rfl⟩)
      go_round
      case rel => exact ⟨k + 1, by omega, by go_num, by rw [feed_snoc _ _ _ hlt]⟩
      case measure => simp [intOf]; omega
    · have hn := U_not (feed (~~~x) (s.data.toList.take k))
      go_wp2
      go_ret
      refine ⟨?_, rfl⟩
      rw [List.take_of_length_le (by simp; omega)]; rfl

theorem refMore_any (v : Int) (x : BitVec 32) (hv : v = U x) (s : ByteArray) (hs : s.size ≤ maxLen) (w : World) :
    Calls Try.prog 41 #[.int .u32 v, .string s] w fun e w' => e = .returned (.int .u32 (U (more x s.data.toList))) ∧ w' = w := by
  subst hv
  unfold maxLen at hs
  have hn := U_ones x
  go_enter Try.func41, Try.ntmps41
  go_wp2_with fail
  clear hn
  go_loop [5, 6] (fun r i => ∃ k : Nat, k ≤ s.size ∧ i = .int .i64 k ∧ r = .int .u32 (U (feed (~~~x) (s.data.toList.take k)))) (fun _ i => s.size - (intOf i).toNat)
  case atStart => exact ⟨0, Nat.zero_le _, rfl, rfl⟩
  case round =>
    obtain ⟨k, hk, rfl, rfl⟩ := hrel
    by_cases hlt : k < s.size
    · have hb := (s[k]).toNat_lt
      go_wp2_with (go_at_call 44; refine (step_any _ (feed (~~~x) (s.data.toList.take k)) rfl _ s[k] rfl _).mono ?_; rintro e w' ⟨rfl, rfl⟩)
      go_round
      case rel => exact ⟨k + 1, by omega, by go_num, by rw [feed_snoc _ _ _ hlt]⟩
      case measure => simp [intOf]; omega
    · have hn := U_ones (feed (~~~x) (s.data.toList.take k))
      go_wp2
      go_ret
      refine ⟨?_, rfl⟩
      rw [List.take_of_length_le (by simp; omega)]; rfl

theorem of_any (s : ByteArray) (hs : s.size ≤ maxLen) (w : World) :
    Calls Try.prog 43 #[.string s] w fun e w' => e = .returned (.int .u32 (U (more 0#32 s.data.toList))) ∧ w' = w := by
  go_enter Try.func43, Try.ntmps43
  go_wp2_with (go_at_call 42; refine (more_any _ 0#32 (by decide) s hs _).mono ?_; rintro e w' ⟨rfl, rfl⟩)
  go_ret
  exact ⟨rfl, rfl⟩

theorem refOf_any (s : ByteArray) (hs : s.size ≤ maxLen) (w : World) :
    Calls Try.prog 34 #[.string s] w fun e w' => e = .returned (.int .u32 (U (more 0#32 s.data.toList))) ∧ w' = w := by
  go_enter Try.func34, Try.ntmps34
  go_wp2_with (go_at_call 41; refine (refMore_any _ 0#32 (by decide) s hs _).mono ?_; rintro e w' ⟨rfl, rfl⟩)
  go_ret
  exact ⟨rfl, rfl⟩

end Go.Proofs.Ytahbhalfilcmiaa
