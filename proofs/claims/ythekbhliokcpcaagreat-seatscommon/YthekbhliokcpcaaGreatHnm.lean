/- mayNumbers, mayLog of any member. -/
import Derived.Test.YthekbhliokcpcaaGreatHpe
namespace Go.Proofs.YthekbhliokcpcaaGreat
open Go.RowKit Go.Maps
/-- The numbers of a member that may be. -/
def numB (s : GP) : Bool := idB s.id && (noneB s.vote && (noneB s.lead && (decide (s.role ≤ 2) && (decide (s.term ≤ 4611686018427387904) && (decide (s.base ≤ 4611686018427387904) && (decide (s.round ≤ 4611686018427387904) && (decide (0 < s.wait) && (decide (s.wait ≤ 1073741824) && (decide (0 ≤ s.idle) && (decide (s.idle ≤ 1073741824)))))))))))
set_option maxRecDepth 100000 in
set_option maxHeartbeats 4000000 in
theorem numbers_g {W : World} {s : GP} {x : Px} : Calls Tryz.prog 103 #[.agg (gc s x)] W fun e w' => e = .returned (.bool (numB s)) ∧ Bel W w' := by
  have H1 := hide (isId_any s.id)
  have H2 : Hid (∀ (y : Int) (b : Bool) (W : World), noneB y = b → Calls Tryz.prog 150 #[.int .i64 y] W fun e w' => e = .returned (.bool b) ∧ w' = W) := hide (fun y b W hy => by rw [← hy]; exact none_any y W)
  unfold numB gc
  cases h0 : idB s.id with
  | false =>
    rw [h0] at H1
    simp only [Bool.false_and]
    go_enter Tryz.func103, Tryz.ntmps103
    go_wp2_with (first
      | (go_at_call 149; refine ((unhide H1) _).mono ?_; rintro e w9 ⟨rfl, hw9⟩; rw [hw9]; clear hw9)
      | (go_at_call 150; refine ((unhide H2) _ _ _ (by assumption)).mono ?_; rintro e w9 ⟨rfl, hw9⟩; rw [hw9]; clear hw9))
    go_ret
    exact ⟨rfl, (Bel.refl W).alloc _⟩
  | true =>
    rw [h0] at H1
    simp only [Bool.true_and]
    cases h1 : noneB s.vote with
    | false =>
      simp only [Bool.false_and]
      go_enter Tryz.func103, Tryz.ntmps103
      go_wp2_with (first
        | (go_at_call 149; refine ((unhide H1) _).mono ?_; rintro e w9 ⟨rfl, hw9⟩; rw [hw9]; clear hw9)
        | (go_at_call 150; refine ((unhide H2) _ _ _ (by assumption)).mono ?_; rintro e w9 ⟨rfl, hw9⟩; rw [hw9]; clear hw9))
      go_ret
      exact ⟨rfl, (Bel.refl W).alloc _⟩
    | true =>
      simp only [Bool.true_and]
      cases h2 : noneB s.lead with
      | false =>
        simp only [Bool.false_and]
        go_enter Tryz.func103, Tryz.ntmps103
        go_wp2_with (first
          | (go_at_call 149; refine ((unhide H1) _).mono ?_; rintro e w9 ⟨rfl, hw9⟩; rw [hw9]; clear hw9)
          | (go_at_call 150; refine ((unhide H2) _ _ _ (by assumption)).mono ?_; rintro e w9 ⟨rfl, hw9⟩; rw [hw9]; clear hw9))
        go_ret
        exact ⟨rfl, (Bel.refl W).alloc _⟩
      | true =>
        simp only [Bool.true_and]
        by_cases h3 : s.role ≤ 2
        · rw [decide_eq_true h3]
          simp only [Bool.true_and]
          by_cases h4 : s.term ≤ 4611686018427387904
          · rw [decide_eq_true h4]
            simp only [Bool.true_and]
            by_cases h5 : s.base ≤ 4611686018427387904
            · rw [decide_eq_true h5]
              simp only [Bool.true_and]
              by_cases h6 : s.round ≤ 4611686018427387904
              · rw [decide_eq_true h6]
                simp only [Bool.true_and]
                by_cases h7 : 0 < s.wait
                · rw [decide_eq_true h7]
                  simp only [Bool.true_and]
                  by_cases h8 : s.wait ≤ 1073741824
                  · rw [decide_eq_true h8]
                    simp only [Bool.true_and]
                    by_cases h9 : 0 ≤ s.idle
                    · rw [decide_eq_true h9]
                      simp only [Bool.true_and]
                      go_enter Tryz.func103, Tryz.ntmps103
                      go_wp2_with (first
                        | (go_at_call 149; refine ((unhide H1) _).mono ?_; rintro e w9 ⟨rfl, hw9⟩; rw [hw9]; clear hw9)
                        | (go_at_call 150; refine ((unhide H2) _ _ _ (by assumption)).mono ?_; rintro e w9 ⟨rfl, hw9⟩; rw [hw9]; clear hw9))
                      go_ret
                      exact ⟨rfl, (Bel.refl W).alloc _⟩
                    · rw [decide_eq_false h9]
                      simp only [Bool.false_and]
                      go_enter Tryz.func103, Tryz.ntmps103
                      go_wp2_with (first
                        | (go_at_call 149; refine ((unhide H1) _).mono ?_; rintro e w9 ⟨rfl, hw9⟩; rw [hw9]; clear hw9)
                        | (go_at_call 150; refine ((unhide H2) _ _ _ (by assumption)).mono ?_; rintro e w9 ⟨rfl, hw9⟩; rw [hw9]; clear hw9))
                      go_ret
                      exact ⟨rfl, (Bel.refl W).alloc _⟩
                  · rw [decide_eq_false h8]
                    simp only [Bool.false_and]
                    go_enter Tryz.func103, Tryz.ntmps103
                    go_wp2_with (first
                      | (go_at_call 149; refine ((unhide H1) _).mono ?_; rintro e w9 ⟨rfl, hw9⟩; rw [hw9]; clear hw9)
                      | (go_at_call 150; refine ((unhide H2) _ _ _ (by assumption)).mono ?_; rintro e w9 ⟨rfl, hw9⟩; rw [hw9]; clear hw9))
                    go_ret
                    exact ⟨rfl, (Bel.refl W).alloc _⟩
                · rw [decide_eq_false h7]
                  simp only [Bool.false_and]
                  go_enter Tryz.func103, Tryz.ntmps103
                  go_wp2_with (first
                    | (go_at_call 149; refine ((unhide H1) _).mono ?_; rintro e w9 ⟨rfl, hw9⟩; rw [hw9]; clear hw9)
                    | (go_at_call 150; refine ((unhide H2) _ _ _ (by assumption)).mono ?_; rintro e w9 ⟨rfl, hw9⟩; rw [hw9]; clear hw9))
                  go_ret
                  exact ⟨rfl, (Bel.refl W).alloc _⟩
              · rw [decide_eq_false h6]
                simp only [Bool.false_and]
                go_enter Tryz.func103, Tryz.ntmps103
                go_wp2_with (first
                  | (go_at_call 149; refine ((unhide H1) _).mono ?_; rintro e w9 ⟨rfl, hw9⟩; rw [hw9]; clear hw9)
                  | (go_at_call 150; refine ((unhide H2) _ _ _ (by assumption)).mono ?_; rintro e w9 ⟨rfl, hw9⟩; rw [hw9]; clear hw9))
                go_ret
                exact ⟨rfl, (Bel.refl W).alloc _⟩
            · rw [decide_eq_false h5]
              simp only [Bool.false_and]
              go_enter Tryz.func103, Tryz.ntmps103
              go_wp2_with (first
                | (go_at_call 149; refine ((unhide H1) _).mono ?_; rintro e w9 ⟨rfl, hw9⟩; rw [hw9]; clear hw9)
                | (go_at_call 150; refine ((unhide H2) _ _ _ (by assumption)).mono ?_; rintro e w9 ⟨rfl, hw9⟩; rw [hw9]; clear hw9))
              go_ret
              exact ⟨rfl, (Bel.refl W).alloc _⟩
          · rw [decide_eq_false h4]
            simp only [Bool.false_and]
            go_enter Tryz.func103, Tryz.ntmps103
            go_wp2_with (first
              | (go_at_call 149; refine ((unhide H1) _).mono ?_; rintro e w9 ⟨rfl, hw9⟩; rw [hw9]; clear hw9)
              | (go_at_call 150; refine ((unhide H2) _ _ _ (by assumption)).mono ?_; rintro e w9 ⟨rfl, hw9⟩; rw [hw9]; clear hw9))
            go_ret
            exact ⟨rfl, (Bel.refl W).alloc _⟩
        · rw [decide_eq_false h3]
          simp only [Bool.false_and]
          go_enter Tryz.func103, Tryz.ntmps103
          go_wp2_with (first
            | (go_at_call 149; refine ((unhide H1) _).mono ?_; rintro e w9 ⟨rfl, hw9⟩; rw [hw9]; clear hw9)
            | (go_at_call 150; refine ((unhide H2) _ _ _ (by assumption)).mono ?_; rintro e w9 ⟨rfl, hw9⟩; rw [hw9]; clear hw9))
          go_ret
          exact ⟨rfl, (Bel.refl W).alloc _⟩
end Go.Proofs.YthekbhliokcpcaaGreat
