/- Nobody and nobody are the same. -/
import Derived.Test.YthekbhliokcpcaaGreatLtk
namespace Go.Proofs.YthekbhliokcpcaaGreat
open Go.RowKit Go.Maps Go.Sort
set_option maxRecDepth 100000 in
theorem ints0 (W : World) : Calls Tryz.prog 26 #[.slice none 0 0, .slice none 0 0] W fun e w' => e = .returned (.bool true) ∧ w' = W := by
  go_enter Tryz.func26, Tryz.ntmps26
  go_wp2_with fail
  refine wp_loop_rounds 1 ?_
  rw [rounds_succ]
  go_wp2_with fail
  go_ret
  exact ⟨rfl, rfl⟩
set_option maxRecDepth 100000 in
theorem ents0 (W : World) : Calls Tryz.prog 27 #[.slice none 0 0, .slice none 0 0] W fun e w' => e = .returned (.bool true) ∧ w' = W := by
  go_enter Tryz.func27, Tryz.ntmps27
  go_wp2_with fail
  refine wp_loop_rounds 1 ?_
  rw [rounds_succ]
  go_wp2_with fail
  go_ret
  exact ⟨rfl, rfl⟩
set_option maxRecDepth 100000 in
theorem reads0 (W : World) : Calls Tryz.prog 25 #[.slice none 0 0, .slice none 0 0] W fun e w' => e = .returned (.bool true) ∧ w' = W := by
  go_enter Tryz.func25, Tryz.ntmps25
  go_wp2_with fail
  refine wp_loop_rounds 1 ?_
  rw [rounds_succ]
  go_wp2_with fail
  go_ret
  exact ⟨rfl, rfl⟩
set_option maxRecDepth 100000 in
set_option maxHeartbeats 4000000 in
theorem same0 (W : World) : Calls Tryz.prog 10 #[.agg (pc 0 p0 x0), .agg (pc 0 p0 x0)] W fun e w' => e = .returned (.bool true) ∧ Bel W w' := by
  have H1 := hide (fun w => ints0 w)
  have H2 := hide (fun w => ents0 w)
  have H3 := hide (fun w => reads0 w)
  go_enter Tryz.func10, Tryz.ntmps10
  go_wp2_with (first
    | go_skip
    | go_guarded
    | (refine bx_box rfl 31 (.tmp 0) rfl (pc 0 p0 x0) rfl ?_; intro b w0 hr0 hs0 hb0; have HR0 := hide hr0; have HB0 := hide hb0; clear hr0 hs0 hb0)
    | (refine bx_box rfl 31 (.tmp 1) rfl (pc 0 p0 x0) rfl ?_; intro b1 w1 hr1 hs1 hb1; obtain ⟨y0, y1, y2, y3, y4, y5, y6, y7, y8, y9, y10, y11, y12, y13, y14, y15, y16, y17⟩ := Bx.of (hb1.row (unhide HR0)); obtain ⟨z0, z1, z2, z3, z4, z5, z6, z7, z8, z9, z10, z11, z12, z13, z14, z15, z16, z17⟩ := Bx.of hr1; have HB1 := hide ((unhide HB0).trans hb1); clear hr1 hs1 hb1)
    | (go_at_call 25; refine ((unhide H3) _).mono ?_; rintro e w3 ⟨rfl, hw3⟩; rw [hw3]; clear hw3)
    | (go_at_call 26; refine ((unhide H1) _).mono ?_; rintro e w4 ⟨rfl, hw4⟩; rw [hw4]; clear hw4)
    | (go_at_call 27; refine ((unhide H2) _).mono ?_; rintro e w5 ⟨rfl, hw5⟩; rw [hw5]; clear hw5))
  refine wp_loop_rounds 1 ?_
  rw [rounds_succ]
  go_wp2_with (first
    | go_skip
    | go_guarded
    | (go_at_call 25; refine ((unhide H3) _).mono ?_; rintro e w3 ⟨rfl, hw3⟩; rw [hw3]; clear hw3)
    | (go_at_call 26; refine ((unhide H1) _).mono ?_; rintro e w4 ⟨rfl, hw4⟩; rw [hw4]; clear hw4)
    | (go_at_call 27; refine ((unhide H2) _).mono ?_; rintro e w5 ⟨rfl, hw5⟩; rw [hw5]; clear hw5))
  go_ret
  exact ⟨rfl, unhide HB1⟩
end Go.Proofs.YthekbhliokcpcaaGreat
