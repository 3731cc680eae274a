/- KeepNil: no wal. -/
import Derived.Test.YtgofdkheffoilaaGreatDoorKlv
namespace Go.Proofs.YtgofdkheffoilaaGreatDoor
open Go.RowKit Go.Maps
set_option maxRecDepth 100000 in
theorem wgone_nil (W : World) : Calls Tryz.prog 25 #[.pointer none] W fun e w' => e = .returned (.bool true) ∧ w' = W := by
  go_enter Tryz.func25, Tryz.ntmps25
  go_wp2_with fail
  go_ret
  exact ⟨rfl, rfl⟩
set_option maxRecDepth 100000 in
theorem at_nil (W : World) : Calls Tryz.prog 23 #[.pointer none, .int .i64 0] W fun e w' => e = .returned (.tuple #[.string ⟨#[]⟩, .int .i64 1]) ∧ w' = W := by
  have HG := hide wgone_nil
  go_enter Tryz.func23, Tryz.ntmps23
  go_wp2_with (first
    | (go_at_call 25; refine ((unhide HG) _).mono ?_; rintro e w1 ⟨rfl, rfl⟩))
  go_ret2
  exact ⟨rfl, rfl⟩
set_option maxRecDepth 100000 in
theorem gone_nil (W : World) : Calls Tryz.prog 9 #[.pointer none] W fun e w' => e = .returned (.bool true) ∧ w' = W := by
  have HG := hide at_nil
  go_enter Tryz.func9, Tryz.ntmps9
  go_wp2_with (first
    | (go_at_call 23; refine ((unhide HG) _).mono ?_; rintro e w1 ⟨rfl, rfl⟩))
  go_ret
  exact ⟨rfl, rfl⟩
set_option maxRecDepth 100000 in
theorem save_nil (cs cs' : Array Value) (W : World) : Calls Tryz.prog 6 #[.pointer none, .agg cs, .agg cs'] W fun e w' => e = .returned (.int .i64 1) ∧ Bel W w' := by
  have HG := hide gone_nil
  go_enter Tryz.func6, Tryz.ntmps6
  go_wp2_with (first
    | (refine bx_box rfl 29 (.tmp 1) rfl cs rfl ?_; intro b w0 hr0 hs0 hb0; have HB := hide hb0; clear hr0 hs0 hb0)
    | (refine bx_box rfl 29 (.tmp 2) rfl cs' rfl ?_; intro b2 w1 hr1 hs1 hb1; replace HB := hide ((unhide HB).trans hb1); clear hr1 hs1 hb1)
    | (go_at_call 9; refine ((unhide HG) _).mono ?_; rintro e w2 ⟨rfl, hw2⟩; rw [hw2]; clear hw2))
  go_ret
  exact ⟨rfl, unhide HB⟩
set_option maxRecDepth 100000 in
theorem trim_nil (cs : Array Value) (W : World) : Calls Tryz.prog 7 #[.pointer none, .agg cs] W fun e w' => e = .returned (.int .i64 1) ∧ Bel W w' := by
  have HG := hide gone_nil
  go_enter Tryz.func7, Tryz.ntmps7
  go_wp2_with (first
    | (refine bx_box rfl 29 (.tmp 1) rfl cs rfl ?_; intro b w0 hr0 hs0 hb0; have HB := hide hb0; clear hr0 hs0 hb0)
    | (go_at_call 9; refine ((unhide HG) _).mono ?_; rintro e w2 ⟨rfl, hw2⟩; rw [hw2]; clear hw2))
  go_ret
  exact ⟨rfl, unhide HB⟩
/-- A member that says nothing. -/
def pz : Array Value := pc 0 ⟨0, 0, 0, 0, 0, 0, 0, [], [], [], 0⟩ ⟨none, 0, none, 0, none, 0, none, 0, none, 0, none, 0⟩
set_option maxRecDepth 100000 in
theorem load_nil (x y : Value) (a : Option Addr) (n c : Nat) (W : World) : Calls Tryz.prog 4 #[.pointer none, x, y, .slice a n c] W fun e w' => e = .returned (.tuple #[.agg pz, .int .i64 1]) ∧ Bel W w' := by
  have HG := hide gone_nil
  go_enter Tryz.func4, Tryz.ntmps4
  go_wp2_with (first
    | go_skip
    | (refine bx_new rfl 29 rfl _ Tryz.zero32 ?_; intro b w0 hr0 hs0 hb0; have HB := hide (And.intro hr0 (And.intro hb0 (Nat.le_of_eq hs0))); clear hr0 hs0 hb0)
    | (go_at_call 9; refine ((unhide HG) _).mono ?_; rintro e w2 ⟨rfl, hw2⟩; rw [hw2]; clear hw2)
    | (refine bx_st rfl 29 (.tmp 8) (.tmp 18) rfl b pz _ rfl rfl (unhide HB).1 (Tryz.size32 _ _ _) rfl (pc_one _ _ _) ?_; intro w3 hr3 hc3; have HZ := hide (And.intro hr3 (bel_off (unhide HB).2.1 hc3 (unhide HB).2.2)); clear hr3 hc3)
    | go_guarded)
  exact bodyPost_ret (res2 (p := 8) (q := 9) rfl Tryz.underlying29 (Tryz.size32 _ _ _) (unhide HZ).1 _ _ rfl rfl) rfl ⟨rfl, (unhide HZ).2⟩
set_option maxRecDepth 100000 in
theorem sameI_nil (W : World) : Calls Tryz.prog 13 #[.slice none 0 0, .slice none 0 0] W fun e w' => e = .returned (.bool true) ∧ w' = W := by
  go_enter Tryz.func13, Tryz.ntmps13
  go_wp2_with fail
  go_loopw [5] (fun vk wr => vk = .int .i64 0 ∧ wr = W) (fun _ _ => 0)
  case atStart => exact ⟨rfl, rfl⟩
  case round =>
    obtain ⟨rfl, rfl⟩ := hrel
    go_wp2_with fail
    go_ret
    exact ⟨rfl, rfl⟩
set_option maxRecDepth 100000 in
theorem sameE_nil (W : World) : Calls Tryz.prog 14 #[.slice none 0 0, .slice none 0 0] W fun e w' => e = .returned (.bool true) ∧ w' = W := by
  go_enter Tryz.func14, Tryz.ntmps14
  go_wp2_with fail
  go_loopw [5] (fun vk wr => vk = .int .i64 0 ∧ wr = W) (fun _ _ => 0)
  case atStart => exact ⟨rfl, rfl⟩
  case round =>
    obtain ⟨rfl, rfl⟩ := hrel
    go_wp2_with fail
    go_ret
    exact ⟨rfl, rfl⟩
set_option maxRecDepth 100000 in
theorem sameR_nil (W : World) : Calls Tryz.prog 12 #[.slice none 0 0, .slice none 0 0] W fun e w' => e = .returned (.bool true) ∧ w' = W := by
  go_enter Tryz.func12, Tryz.ntmps12
  go_wp2_with fail
  go_loopw [5] (fun vk wr => vk = .int .i64 0 ∧ wr = W) (fun _ _ => 0)
  case atStart => exact ⟨rfl, rfl⟩
  case round =>
    obtain ⟨rfl, rfl⟩ := hrel
    go_wp2_with fail
    go_ret
    exact ⟨rfl, rfl⟩
set_option maxRecDepth 100000 in
set_option maxHeartbeats 4000000 in
theorem same_nil (W : World) : Calls Tryz.prog 5 #[.agg pz, .agg pz] W fun e w' => e = .returned (.bool true) ∧ Bel W w' := by
  have HI := hide sameI_nil
  have HE := hide sameE_nil
  have HR := hide sameR_nil
  go_enter Tryz.func5, Tryz.ntmps5
  go_wp2_with (first
    | go_skip
    | (refine bx_box rfl 29 (.tmp 0) rfl pz rfl ?_; intro b w0 hr0 hs0 hb0; have HR0 := hide (And.intro hr0 hb0); clear hr0 hs0 hb0)
    | (refine bx_box rfl 29 (.tmp 1) rfl pz rfl ?_; intro b' w1 hr1 hs1 hb1; have HB := hide ((unhide HR0).2.trans hb1); obtain ⟨y0, y1, y2, y3, y4, y5, y6, y7, y8, y9, y10, y11, y12, y13, y14, y15, y16, y17⟩ := Bx.of (hb1.row (unhide HR0).1); obtain ⟨z0, z1, z2, z3, z4, z5, z6, z7, z8, z9, z10, z11, z12, z13, z14, z15, z16, z17⟩ := Bx.of hr1; clear hr1 hs1 hb1)
    | (go_at_call 12; refine ((unhide HR) _).mono ?_; rintro e w2 ⟨rfl, hw2⟩; rw [hw2]; clear hw2)
    | go_guarded)
  go_loopw [5] (fun vk wr => vk = .int .i64 0 ∧ wr = w1) (fun _ _ => 0)
  case atStart => exact ⟨rfl, rfl⟩
  case round =>
    obtain ⟨rfl, rfl⟩ := hrel
    go_wp2_with (first
      | go_skip
      | (go_at_call 13; refine ((unhide HI) _).mono ?_; rintro e w3 ⟨rfl, hw3⟩; rw [hw3]; clear hw3)
      | (go_at_call 14; refine ((unhide HE) _).mono ?_; rintro e w3 ⟨rfl, hw3⟩; rw [hw3]; clear hw3)
      | go_guarded)
    go_ret
    exact ⟨rfl, unhide HB⟩
set_option maxRecDepth 100000 in
set_option maxHeartbeats 4000000 in
theorem nil_law (cs cs' : Array Value) (h1 : (Tryz.prog.info? 29).map (·.size) = some cs.size) (h2 : (Tryz.prog.info? 29).map (·.size) = some cs'.size) (id wait : Int) (W : World) : Calls Tryz.prog 3 #[.agg cs, .agg cs', .int .i64 id, .int .i64 wait] W fun e w' => e = .returned (.bool true) ∧ Bel W w' := by
  have HL := hide load_nil
  have HS := hide same_nil
  have HV := hide (save_nil cs cs')
  have HT := hide (trim_nil cs)
  have HA : Hid (∀ W', Calls Tryz.prog 8 #[] W' fun e w' => e = .returned (.bool true) ∧ Bel W' w') := hide (fun W' => alive_any)
  have H1 := hide h1
  have H2 := hide h2
  clear h1 h2
  go_enter Tryz.func3, Tryz.ntmps3
  go_wp2_with (first
    | go_skip
    | (refine bx_box rfl 29 (.tmp 0) rfl cs rfl ?_; intro b w0 hr0 hs0 hb0; have HR0 := hide (And.intro hr0 hb0); clear hr0 hs0 hb0)
    | (refine bx_box rfl 29 (.tmp 1) rfl cs' rfl ?_; intro b' w1 hr1 hs1 hb1; have HB := hide (And.intro (hb1.row (unhide HR0).1) (And.intro hr1 ((unhide HR0).2.trans hb1))); clear hr1 hs1 hb1)
    | (go_at_call 4; refine ((unhide HL) _ _ _ _ _ _).mono ?_; rintro e w2 ⟨rfl, hb2⟩; replace HB := hide (And.intro (((Bel.refl w1).alloc _ |>.trans hb2).row (unhide HB).1) (And.intro (((Bel.refl w1).alloc _ |>.trans hb2).row (unhide HB).2.1) ((unhide HB).2.2.trans ((Bel.refl w1).alloc _ |>.trans hb2)))); clear hb2)
    | (refine bx_new rfl 29 rfl _ Tryz.zero32 ?_; intro b9 w3 hr3 hs3 hb3; have HK := hide (And.intro hr3 (And.intro (show W.heap.size ≤ b9 by have := (unhide HB).2.2.size; omega) (And.intro (show b ≠ b9 from fun e => by have := lt_of_some (unhide HB).1; omega) (show b' ≠ b9 from fun e => by have := lt_of_some (unhide HB).2.1; omega)))); replace HB := hide (And.intro (hb3.row (unhide HB).1) (And.intro (hb3.row (unhide HB).2.1) ((unhide HB).2.2.trans hb3))); clear hr3 hs3 hb3)
    | (refine bx_st rfl 29 (.tmp 9) (.tmp 16) rfl b9 pz _ rfl rfl (unhide HK).1 (Tryz.size32 _ _ _) rfl (pc_one _ _ _) ?_; intro w4 hr4 hc4; replace HB := hide (And.intro (hc4.row (unhide HB).1 (unhide HK).2.2.1) (And.intro (hc4.row (unhide HB).2.1 (unhide HK).2.2.2) (bel_off (unhide HB).2.2 hc4 (unhide HK).2.1))); replace HK := hide hr4; clear hr4 hc4)
    | (refine bx_ldH 29 (.tmp 9) (by exact rfl) b9 (by exact rfl) (by exact rfl) _ _ (unhide HK) Tryz.underlying29 (Tryz.size32 _ _ _) ?_)
    | (refine bx_ldH 29 (.tmp 4) (by exact rfl) b (by exact rfl) (by exact rfl) _ _ (unhide HB).1 Tryz.underlying29 (unhide H1) ?_)
    | (refine bx_ldH 29 (.tmp 5) (by exact rfl) b' (by exact rfl) (by exact rfl) _ _ (unhide HB).2.1 Tryz.underlying29 (unhide H2) ?_)
    | (go_at_call 5; refine ((unhide HS) _).mono ?_; rintro e w5 ⟨rfl, hb5⟩; replace HB := hide (And.intro (hb5.row (unhide HB).1) (And.intro (hb5.row (unhide HB).2.1) ((unhide HB).2.2.trans hb5))); clear hb5)
    | (go_at_call 6; refine ((unhide HV) _).mono ?_; rintro e w6 ⟨rfl, hb6⟩; replace HB := hide (And.intro (hb6.row (unhide HB).1) (And.intro (hb6.row (unhide HB).2.1) ((unhide HB).2.2.trans hb6))); clear hb6)
    | (go_at_call 7; refine ((unhide HT) _).mono ?_; rintro e w7 ⟨rfl, hb7⟩; replace HB := hide (And.intro (hb7.row (unhide HB).1) (And.intro (hb7.row (unhide HB).2.1) ((unhide HB).2.2.trans hb7))); clear hb7)
    | (go_at_call 8; refine ((unhide HA) _).mono ?_; rintro e w8 ⟨rfl, hb8⟩; have HZ := hide ((unhide HB).2.2.trans hb8); clear hb8)
    | go_guarded)
  go_ret
  exact ⟨rfl, unhide HZ⟩
end Go.Proofs.YtgofdkheffoilaaGreatDoor
