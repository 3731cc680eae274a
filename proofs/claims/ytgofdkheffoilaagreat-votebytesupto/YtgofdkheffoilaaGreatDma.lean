/- MayMsg of the document: a message that fails its first test, or of no kind. -/
import Derived.Test.YtgofdkheffoilaaGreatDmp
namespace Go.Proofs.YtgofdkheffoilaaGreat
open Go.RowKit Go.Maps
/-- A message in its box, and the one that it is held against. -/
structure Md (W w : World) (b b3 : Nat) (m : GM) (x : GX) (k : GM) (y : GX) : Prop where
  row : w.heap[b]? = some (.cells (mg m x) 27)
  row3 : w.heap[b3]? = some (.cells (mg k y) 27)
  bel : Bel W w
  ge3 : W.heap.size ≤ b3
  ne : b ≠ b3
theorem Md.set {W w w' : World} {b b3 : Nat} {m k k' : GM} {x y y' : GX} (h : Md W w b b3 m x k y) (hr : w'.heap[b3]? = some (.cells (mg k' y') 27)) (hc : Ch (fun i => i = b3) w w') : Md W w' b b3 m x k' y' := ⟨hc.row h.row h.ne, hr, bel_off h.bel hc h.ge3, h.ge3, h.ne⟩
theorem Md.next {W w w' : World} {b b3 : Nat} {m k : GM} {x y : GX} (h : Md W w b b3 m x k y) (hb : Bel w w') : Md W w' b b3 m x k y := ⟨hb.row h.row, hb.row h.row3, h.bel.trans hb, h.ge3, h.ne⟩
set_option maxRecDepth 100000 in
set_option maxHeartbeats 8000000 in
theorem mm_no {W : World} {m : GM} {x : GX} (hh : headD m = false) (hm : mayMB m = false) : Calls Tryz.prog 10 #[.agg (mg m x)] W fun e w' => e = .returned (.bool (mayMB m)) ∧ Bel W w' := by
  rw [hm]
  clear hm
  unfold headD at hh
  cases h1 : idB m.frm with
  | false =>
    clear hh
    have HI1 : Hid (∀ W', Calls Tryz.prog 37 #[.int .i64 m.frm] W' fun e w' => e = .returned (.bool false) ∧ w' = W') := hide (fun W' => by have z := did_any m.frm W'; rwa [h1] at z)
    clear h1
    go_enter Tryz.func10, Tryz.ntmps10
    go_wp2_with (first
      | go_skip
      | (refine bx_box rfl 27 (.tmp 0) rfl (mg m x) rfl ?_; intro b w0 hr0 hs0 hb0; obtain ⟨c0, c1, c2, c3, c4, c5, c6, c7, c8, c9, c10, c11⟩ := Mb2.of hr0; have HB := hide (And.intro hr0 (And.intro hb0 (Nat.le_of_eq hs0))); clear hr0 hs0 hb0)
      | (go_at_call 37; refine ((unhide HI1) _).mono ?_; rintro e w1 ⟨rfl, rfl⟩)
      | go_guarded)
    go_ret
    exact ⟨rfl, (unhide HB).2.1⟩
  | true =>
    cases h2 : idB m.to with
    | false =>
      clear hh
      have HI1 : Hid (∀ W', Calls Tryz.prog 37 #[.int .i64 m.frm] W' fun e w' => e = .returned (.bool true) ∧ w' = W') := hide (fun W' => by have z := did_any m.frm W'; rwa [h1] at z)
      have HI2 : Hid (∀ W', Calls Tryz.prog 37 #[.int .i64 m.to] W' fun e w' => e = .returned (.bool false) ∧ w' = W') := hide (fun W' => by have z := did_any m.to W'; rwa [h2] at z)
      clear h1 h2
      go_enter Tryz.func10, Tryz.ntmps10
      go_wp2_with (first
        | go_skip
        | (refine bx_box rfl 27 (.tmp 0) rfl (mg m x) rfl ?_; intro b w0 hr0 hs0 hb0; obtain ⟨c0, c1, c2, c3, c4, c5, c6, c7, c8, c9, c10, c11⟩ := Mb2.of hr0; have HB := hide (And.intro hr0 (And.intro hb0 (Nat.le_of_eq hs0))); clear hr0 hs0 hb0)
        | (go_at_call 37; refine ((unhide HI1) _).mono ?_; rintro e w1 ⟨rfl, rfl⟩)
        | (go_at_call 37; refine ((unhide HI2) _).mono ?_; rintro e w1 ⟨rfl, rfl⟩)
        | go_guarded)
      go_ret
      exact ⟨rfl, (unhide HB).2.1⟩
    | true =>
      cases h3 : (m.frm == m.to) with
      | true =>
        clear hh
        have HI1 : Hid (∀ W', Calls Tryz.prog 37 #[.int .i64 m.frm] W' fun e w' => e = .returned (.bool true) ∧ w' = W') := hide (fun W' => by have z := did_any m.frm W'; rwa [h1] at z)
        have HI2 : Hid (∀ W', Calls Tryz.prog 37 #[.int .i64 m.to] W' fun e w' => e = .returned (.bool true) ∧ w' = W') := hide (fun W' => by have z := did_any m.to W'; rwa [h2] at z)
        clear h1 h2
        go_enter Tryz.func10, Tryz.ntmps10
        go_wp2_with (first
          | go_skip
          | (refine bx_box rfl 27 (.tmp 0) rfl (mg m x) rfl ?_; intro b w0 hr0 hs0 hb0; obtain ⟨c0, c1, c2, c3, c4, c5, c6, c7, c8, c9, c10, c11⟩ := Mb2.of hr0; have HB := hide (And.intro hr0 (And.intro hb0 (Nat.le_of_eq hs0))); clear hr0 hs0 hb0)
          | (go_at_call 37; refine ((unhide HI1) _).mono ?_; rintro e w1 ⟨rfl, rfl⟩)
          | (go_at_call 37; refine ((unhide HI2) _).mono ?_; rintro e w1 ⟨rfl, rfl⟩)
          | go_guarded)
        go_ret
        exact ⟨rfl, (unhide HB).2.1⟩
      | false =>
        cases h4 : (m.term == 0) with
        | true =>
          clear hh
          have HI1 : Hid (∀ W', Calls Tryz.prog 37 #[.int .i64 m.frm] W' fun e w' => e = .returned (.bool true) ∧ w' = W') := hide (fun W' => by have z := did_any m.frm W'; rwa [h1] at z)
          have HI2 : Hid (∀ W', Calls Tryz.prog 37 #[.int .i64 m.to] W' fun e w' => e = .returned (.bool true) ∧ w' = W') := hide (fun W' => by have z := did_any m.to W'; rwa [h2] at z)
          clear h1 h2
          go_enter Tryz.func10, Tryz.ntmps10
          go_wp2_with (first
            | go_skip
            | (refine bx_box rfl 27 (.tmp 0) rfl (mg m x) rfl ?_; intro b w0 hr0 hs0 hb0; obtain ⟨c0, c1, c2, c3, c4, c5, c6, c7, c8, c9, c10, c11⟩ := Mb2.of hr0; have HB := hide (And.intro hr0 (And.intro hb0 (Nat.le_of_eq hs0))); clear hr0 hs0 hb0)
            | (go_at_call 37; refine ((unhide HI1) _).mono ?_; rintro e w1 ⟨rfl, rfl⟩)
            | (go_at_call 37; refine ((unhide HI2) _).mono ?_; rintro e w1 ⟨rfl, rfl⟩)
            | go_guarded)
          go_ret
          exact ⟨rfl, (unhide HB).2.1⟩
        | false =>
          cases h5 : decide (4611686018427387904 < m.term) with
          | true =>
            clear hh
            have HI1 : Hid (∀ W', Calls Tryz.prog 37 #[.int .i64 m.frm] W' fun e w' => e = .returned (.bool true) ∧ w' = W') := hide (fun W' => by have z := did_any m.frm W'; rwa [h1] at z)
            have HI2 : Hid (∀ W', Calls Tryz.prog 37 #[.int .i64 m.to] W' fun e w' => e = .returned (.bool true) ∧ w' = W') := hide (fun W' => by have z := did_any m.to W'; rwa [h2] at z)
            clear h1 h2
            go_enter Tryz.func10, Tryz.ntmps10
            go_wp2_with (first
              | go_skip
              | (refine bx_box rfl 27 (.tmp 0) rfl (mg m x) rfl ?_; intro b w0 hr0 hs0 hb0; obtain ⟨c0, c1, c2, c3, c4, c5, c6, c7, c8, c9, c10, c11⟩ := Mb2.of hr0; have HB := hide (And.intro hr0 (And.intro hb0 (Nat.le_of_eq hs0))); clear hr0 hs0 hb0)
              | (go_at_call 37; refine ((unhide HI1) _).mono ?_; rintro e w1 ⟨rfl, rfl⟩)
              | (go_at_call 37; refine ((unhide HI2) _).mono ?_; rintro e w1 ⟨rfl, rfl⟩)
              | go_guarded)
            go_ret
            exact ⟨rfl, (unhide HB).2.1⟩
          | false =>
            cases h6 : decide (4611686018427387904 < m.round) with
            | true =>
              clear hh
              have HI1 : Hid (∀ W', Calls Tryz.prog 37 #[.int .i64 m.frm] W' fun e w' => e = .returned (.bool true) ∧ w' = W') := hide (fun W' => by have z := did_any m.frm W'; rwa [h1] at z)
              have HI2 : Hid (∀ W', Calls Tryz.prog 37 #[.int .i64 m.to] W' fun e w' => e = .returned (.bool true) ∧ w' = W') := hide (fun W' => by have z := did_any m.to W'; rwa [h2] at z)
              clear h1 h2
              go_enter Tryz.func10, Tryz.ntmps10
              go_wp2_with (first
                | go_skip
                | (refine bx_box rfl 27 (.tmp 0) rfl (mg m x) rfl ?_; intro b w0 hr0 hs0 hb0; obtain ⟨c0, c1, c2, c3, c4, c5, c6, c7, c8, c9, c10, c11⟩ := Mb2.of hr0; have HB := hide (And.intro hr0 (And.intro hb0 (Nat.le_of_eq hs0))); clear hr0 hs0 hb0)
                | (go_at_call 37; refine ((unhide HI1) _).mono ?_; rintro e w1 ⟨rfl, rfl⟩)
                | (go_at_call 37; refine ((unhide HI2) _).mono ?_; rintro e w1 ⟨rfl, rfl⟩)
                | go_guarded)
              go_ret
              exact ⟨rfl, (unhide HB).2.1⟩
            | false =>
              cases h7 : decide (4611686018427387904 < m.index) with
              | true =>
                clear hh
                have HI1 : Hid (∀ W', Calls Tryz.prog 37 #[.int .i64 m.frm] W' fun e w' => e = .returned (.bool true) ∧ w' = W') := hide (fun W' => by have z := did_any m.frm W'; rwa [h1] at z)
                have HI2 : Hid (∀ W', Calls Tryz.prog 37 #[.int .i64 m.to] W' fun e w' => e = .returned (.bool true) ∧ w' = W') := hide (fun W' => by have z := did_any m.to W'; rwa [h2] at z)
                clear h1 h2
                go_enter Tryz.func10, Tryz.ntmps10
                go_wp2_with (first
                  | go_skip
                  | (refine bx_box rfl 27 (.tmp 0) rfl (mg m x) rfl ?_; intro b w0 hr0 hs0 hb0; obtain ⟨c0, c1, c2, c3, c4, c5, c6, c7, c8, c9, c10, c11⟩ := Mb2.of hr0; have HB := hide (And.intro hr0 (And.intro hb0 (Nat.le_of_eq hs0))); clear hr0 hs0 hb0)
                  | (go_at_call 37; refine ((unhide HI1) _).mono ?_; rintro e w1 ⟨rfl, rfl⟩)
                  | (go_at_call 37; refine ((unhide HI2) _).mono ?_; rintro e w1 ⟨rfl, rfl⟩)
                  | go_guarded)
                go_ret
                exact ⟨rfl, (unhide HB).2.1⟩
              | false =>
                cases h8 : decide (m.term < m.lterm) with
                | true =>
                  clear hh
                  have HI1 : Hid (∀ W', Calls Tryz.prog 37 #[.int .i64 m.frm] W' fun e w' => e = .returned (.bool true) ∧ w' = W') := hide (fun W' => by have z := did_any m.frm W'; rwa [h1] at z)
                  have HI2 : Hid (∀ W', Calls Tryz.prog 37 #[.int .i64 m.to] W' fun e w' => e = .returned (.bool true) ∧ w' = W') := hide (fun W' => by have z := did_any m.to W'; rwa [h2] at z)
                  clear h1 h2
                  go_enter Tryz.func10, Tryz.ntmps10
                  go_wp2_with (first
                    | go_skip
                    | (refine bx_box rfl 27 (.tmp 0) rfl (mg m x) rfl ?_; intro b w0 hr0 hs0 hb0; obtain ⟨c0, c1, c2, c3, c4, c5, c6, c7, c8, c9, c10, c11⟩ := Mb2.of hr0; have HB := hide (And.intro hr0 (And.intro hb0 (Nat.le_of_eq hs0))); clear hr0 hs0 hb0)
                    | (go_at_call 37; refine ((unhide HI1) _).mono ?_; rintro e w1 ⟨rfl, rfl⟩)
                    | (go_at_call 37; refine ((unhide HI2) _).mono ?_; rintro e w1 ⟨rfl, rfl⟩)
                    | go_guarded)
                  go_ret
                  exact ⟨rfl, (unhide HB).2.1⟩
                | false =>
                  exfalso
                  simp only [h1, h2, h3, h4] at hh
                  have h5 := of_decide_eq_false h5
                  have h6 := of_decide_eq_false h6
                  have h7 := of_decide_eq_false h7
                  have h8 := of_decide_eq_false h8
                  simp at hh
                  omega
set_option maxRecDepth 100000 in
set_option maxHeartbeats 8000000 in
theorem mm_0 {W : World} {m : GM} {x : GX} (h1 : idB m.frm = true) (h2 : idB m.to = true) (h3 : (m.frm == m.to) = false) (h4 : (m.term == 0) = false) (h5 : decide (4611686018427387904 < m.term) = false) (h6 : decide (4611686018427387904 < m.round) = false) (h7 : decide (4611686018427387904 < m.index) = false) (h8 : decide (m.term < m.lterm) = false) (hm : mayMB m = false) (k1 : (m.kind == 1) = false) (k2 : (m.kind == 2) = false) (k3 : (m.kind == 3) = false) (k4 : (m.kind == 4) = false) (k5 : (m.kind == 5) = false) : Calls Tryz.prog 10 #[.agg (mg m x)] W fun e w' => e = .returned (.bool (mayMB m)) ∧ Bel W w' := by
  rw [hm]
  clear hm
  have HI1 : Hid (∀ W', Calls Tryz.prog 37 #[.int .i64 m.frm] W' fun e w' => e = .returned (.bool true) ∧ w' = W') := hide (fun W' => by have z := did_any m.frm W'; rwa [h1] at z)
  have HI2 : Hid (∀ W', Calls Tryz.prog 37 #[.int .i64 m.to] W' fun e w' => e = .returned (.bool true) ∧ w' = W') := hide (fun W' => by have z := did_any m.to W'; rwa [h2] at z)
  clear h1 h2
  go_enter Tryz.func10, Tryz.ntmps10
  go_wp2_with (first
    | go_skip
    | (refine bx_box rfl 27 (.tmp 0) rfl (mg m x) rfl ?_; intro b w0 hr0 hs0 hb0; obtain ⟨c0, c1, c2, c3, c4, c5, c6, c7, c8, c9, c10, c11⟩ := Mb2.of hr0; have HB := hide (And.intro hr0 (And.intro hb0 (Nat.le_of_eq hs0))); clear hr0 hs0 hb0)
    | (go_at_call 37; refine ((unhide HI1) _).mono ?_; rintro e w1 ⟨rfl, rfl⟩)
    | (go_at_call 37; refine ((unhide HI2) _).mono ?_; rintro e w1 ⟨rfl, rfl⟩)
    | (refine bx_new rfl 27 rfl _ zeroM ?_; intro b3 w2 hr2 hs2 hb2; have HO : Hid (Md W w2 b b3 m x gz gzx) := hide ⟨hb2.row (unhide HB).1, hr2, (unhide HB).2.1.trans hb2, (show W.heap.size ≤ b3 by have := (unhide HB).2.1.size; omega), (show b ≠ b3 from fun e => by have := lt_of_some (unhide HB).1; omega)⟩; clear hr2 hs2 hb2 HB; clear c0 c1 c2 c3 c4 c5 c6 c7 c8 c9 c10 c11; obtain ⟨c0, c1, c2, c3, c4, c5, c6, c7, c8, c9, c10, c11⟩ := Mb2.of (unhide HO).row)
    | (refine bx_st rfl 27 (.tmp 3) (.tmp 56) rfl b3 (mg ⟨m.kind, m.frm, m.to, m.term, 0, 0, 0, 0, false, [], [], ⟨#[]⟩⟩ gzx) _ rfl rfl (unhide HO).row3 (szM _ _) rfl (mg_one _ _) ?_; intro w3 hr3 hc3; replace HO : Hid (Md W w3 b b3 m x ⟨m.kind, m.frm, m.to, m.term, 0, 0, 0, 0, false, [], [], ⟨#[]⟩⟩ gzx) := hide ((unhide HO).set hr3 hc3); clear hr3 hc3; clear c0 c1 c2 c3 c4 c5 c6 c7 c8 c9 c10 c11; obtain ⟨c0, c1, c2, c3, c4, c5, c6, c7, c8, c9, c10, c11⟩ := Mb2.of (unhide HO).row)
    | go_guarded)
  go_ret
  exact ⟨rfl, (unhide HO).bel⟩
end Go.Proofs.YtgofdkheffoilaaGreat
