/- What the closures of the program's Read leave in its two boxes. -/
import Derived.Test.YtgghcfmpfneehaaGreatDoorTriE
import Derived.Test.YtgghcfmpfneehaaGreatDoorValM
namespace Go.Proofs.YtgghcfmpfneehaaGreatDoor
open Go.RowKit
/-- The byte at the front of a write's bytes. -/
def rMk (s : ByteArray) : Bool × ByteArray × Int :=
  if s.size = 0 then (false, ⟨#[]⟩, 20) else if 1 < n0 s then (false, ⟨#[]⟩, 21) else (n0 s == 1, s.extract 1 s.size, 0)
set_option maxRecDepth 100000 in
theorem mark_any (s : ByteArray) (hm : s.size ≤ 150000000000000) (w : World) : Calls Tryz.prog 21 #[.string s] w fun e w' => e = .returned (.tuple #[.bool (rMk s).1, .string (rMk s).2.1, .int .i64 (rMk s).2.2]) ∧ Bel w w' := by
  by_cases h0 : s.size = 0
  · have e : rMk s = (false, ⟨#[]⟩, 20) := if_pos h0
    rw [e]
    have h1 : ((s.size : Int) == 0) = true := by simp [h0]
    clear e h0
    go_enter Tryz.func21, Tryz.ntmps21
    go_wp2_with fail
    go_ret3
    exact ⟨rfl, Bel.refl _⟩
  · have hp : 0 < s.size := by omega
    have hn := n0_pos hp
    have h1 : ((s.size : Int) == 0) = false := ne_beq (by omega)
    by_cases h2 : 1 < (s[0]).toNat
    · have e : rMk s = (false, ⟨#[]⟩, 21) := by unfold rMk; rw [if_neg h0, if_pos (by rw [hn]; exact h2)]
      rw [e]
      have h3 : (1 : Int) < ((s[0]).toNat : Int) := by omega
      clear e h0 h2 hn
      go_enter Tryz.func21, Tryz.ntmps21
      go_wp2_with fail
      go_ret3
      exact ⟨rfl, Bel.refl _⟩
    · have e : rMk s = ((s[0]).toNat == 1, s.extract 1 s.size, 0) := by unfold rMk; rw [if_neg h0, if_neg (by rw [hn]; exact h2), hn]
      rw [e]
      have h3 : ¬ (1 : Int) < ((s[0]).toNat : Int) := by omega
      have h4 : (((s[0]).toNat : Int) == 1) = ((s[0]).toNat == 1) := by
        rw [Bool.eq_iff_iff]; simp; omega
      obtain ⟨q, hq⟩ : ∃ q, ((s[0]).toNat == 1) = q := ⟨_, rfl⟩
      rw [hq] at h4
      simp only [hq]
      have h5 : (1 : Int) ≤ (s.size : Int) := by omega
      clear e h0 h2 hn hq
      go_enter Tryz.func21, Tryz.ntmps21
      go_wp2_with fail
      go_region_held3 (fun _ => True) (trivial) (fail)
      all_goals
        go_wp2
        go_ret3
        exact ⟨rfl, (Bel.refl _).drew⟩
end Go.Proofs.YtgghcfmpfneehaaGreatDoor
