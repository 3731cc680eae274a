/- The document's Schema. -/
import Derived.Test.YtgghcfmpfneehaaGreatDoorTriH
namespace Go.Proofs.YtgghcfmpfneehaaGreatDoor
open Go.RowKit
theorem eS_no {p : ByteArray} {t : Int} {tm od rv : Bool} (h : isName p.data.toList = false) : eS p t tm od rv = 40 := by
  simp [eS, fstE, eP_no h]
theorem eS_yes {p : ByteArray} {t : Int} {tm od rv : Bool} (h : isName p.data.toList = true) : eS p t tm od rv = eM t tm od rv := by
  simp only [eS, fstE, eP_yes h, if_pos]
  split
  · rename_i h1; exact h1.symm
  · rfl
theorem isT_cases (t : Int) : (t = 1 ∨ t = 2 ∨ t = 3 ∨ t = 4) ∨ (t < 1 ∧ isT t = false) ∨ (¬ t < 1 ∧ 4 < t ∧ isT t = false) := by
  have e : (isT t = false) = ¬ (t = 1 ∨ t = 2 ∨ t = 3 ∨ t = 4) := by
    simp [isT, not_or]
    constructor
    · rintro ⟨⟨⟨a, b⟩, c⟩, d⟩; exact ⟨a, b, c, d⟩
    · rintro ⟨a, b, c, d⟩; exact ⟨⟨⟨a, b⟩, c⟩, d⟩
  rw [e]
  omega
set_option maxHeartbeats 1000000 in
set_option maxRecDepth 100000 in
theorem refSchema_any (p : ByteArray) (t : Int) (l x tm od rv ct : Bool) (w : World) : Calls Tryz.prog 83 #[sc p t l x tm od rv ct] w fun e w' => e = .returned (.int .i64 (eS p t tm od rv)) ∧ Bel w w' := by
  have hP := hide (fun W => refPred_any p W)
  unfold sc
  cases hp : isName p.data.toList with
  | false =>
    rw [hp] at hP
    rw [eS_no hp]
    clear hp
    go_enter Tryz.func83, Tryz.ntmps83
    go_wp2_with (go_at_call 66; refine (hP.out _).mono ?_; rintro e w' ⟨rfl, rfl⟩)
    go_ret
    exact ⟨rfl, (Bel.refl _).alloc _⟩
  | true =>
    rw [hp] at hP
    rw [eS_yes hp]
    clear hp
    rcases isT_cases t with h | ⟨h1, h2⟩ | ⟨h1, h3, h2⟩
    · rcases h with rfl | rfl | rfl | rfl
      all_goals
        cases tm <;> cases od <;> cases rv
      all_goals
        go_enter Tryz.func83, Tryz.ntmps83
        go_wp2_with (go_at_call 66; refine (hP.out _).mono ?_; rintro e w' ⟨rfl, rfl⟩)
        go_ret
        exact ⟨rfl, (Bel.refl _).alloc _⟩
    · rw [eM_no1 h2]
      clear h2
      go_enter Tryz.func83, Tryz.ntmps83
      go_wp2_with (go_at_call 66; refine (hP.out _).mono ?_; rintro e w' ⟨rfl, rfl⟩)
      go_ret
      exact ⟨rfl, (Bel.refl _).alloc _⟩
    · rw [eM_no1 h2]
      clear h2
      go_enter Tryz.func83, Tryz.ntmps83
      go_wp2_with (go_at_call 66; refine (hP.out _).mono ?_; rintro e w' ⟨rfl, rfl⟩)
      go_ret
      exact ⟨rfl, (Bel.refl _).alloc _⟩
end Go.Proofs.YtgghcfmpfneehaaGreatDoor
