/- MayMsg of the document: what is installed. -/
import Derived.Test.YtgofdkheffoilaaGreatDma
namespace Go.Proofs.YtgofdkheffoilaaGreat
open Go.RowKit Go.Maps
set_option maxRecDepth 100000 in
set_option maxHeartbeats 32000000 in
theorem mm_5 {W : World} {m : GM} {x : GX} (g : Gw W m x) (hm : m.mem.length ≤ 1048576) (h1 : idB m.frm = true) (h2 : idB m.to = true) (h3 : (m.frm == m.to) = false) (h4 : (m.term == 0) = false) (h5 : decide (4611686018427387904 < m.term) = false) (h6 : decide (4611686018427387904 < m.round) = false) (h7 : decide (4611686018427387904 < m.index) = false) (h8 : decide (m.term < m.lterm) = false) (hkk : m.kind = 5) (k1 : (m.kind == 1) = false) (k2 : (m.kind == 2) = false) (k3 : (m.kind == 3) = false) (k4 : (m.kind == 4) = false) (k5 : (m.kind == 5) = true) (hE : mayMB m = (((decide (0 < m.index) && decide (0 < m.lterm)) && (decide (0 < m.mem.length) && aids 0 m.mem)) && emptyB (unm m))) : Calls Tryz.prog 10 #[.agg (mg m x)] W fun e w' => e = .returned (.bool (mayMB m)) ∧ Bel W w' := by
  rw [hE]
  clear hE
  have HI1 : Hid (∀ W', Calls Tryz.prog 37 #[.int .i64 m.frm] W' fun e w' => e = .returned (.bool true) ∧ w' = W') := hide (fun W' => by have z := did_any m.frm W'; rwa [h1] at z)
  have HI2 : Hid (∀ W', Calls Tryz.prog 37 #[.int .i64 m.to] W' fun e w' => e = .returned (.bool true) ∧ w' = W') := hide (fun W' => by have z := did_any m.to W'; rwa [h2] at z)
  have HS : Hid (∀ W', Gw W' m x → Calls Tryz.prog 9 #[.agg (mg (x5 m) ⟨none, 0, [], x.ma, x.mc⟩), .agg (mg m x)] W' fun e w' => e = .returned (.bool (emptyB (unm m))) ∧ Bel W' w') := hide (fun W' g2 => sm5 g2 hkk hm)
  have HIs : Hid (∀ W', Gw W' m x → Calls Tryz.prog 38 #[.slice x.ma m.mem.length x.mc] W' fun e w' => e = .returned (.bool (aids 0 m.mem)) ∧ Bel W' w') := hide (fun W' g2 => (dids_any g2.m x.mc (by omega)).mono (fun e w' h => ⟨h.1, by obtain ⟨q, rfl⟩ := h.2; exact (Bel.refl _).drewN q⟩))
  have HGw := hide g
  have hz5 : decide ((0 : Int) < (m.mem.length : Int)) = decide (0 < m.mem.length) := by simp
  clear h1 h2 g hm hkk
  go_enter Tryz.func10, Tryz.ntmps10
  go_wp2_with (first
    | go_skip
    | (refine bx_box rfl 27 (.tmp 0) rfl (mg m x) rfl ?_; intro b w0 hr0 hs0 hb0; obtain ⟨c0, c1, c2, c3, c4, c5, c6, c7, c8, c9, c10, c11⟩ := Mb2.of hr0; have HB := hide (And.intro hr0 (And.intro hb0 (Nat.le_of_eq hs0))); clear hr0 hs0 hb0)
    | (go_at_call 37; refine ((unhide HI1) _).mono ?_; rintro e w1 ⟨rfl, rfl⟩)
    | (go_at_call 37; refine ((unhide HI2) _).mono ?_; rintro e w1 ⟨rfl, rfl⟩)
    | (refine bx_new rfl 27 rfl _ zeroM ?_; intro b3 w2 hr2 hs2 hb2; have HO : Hid (Md W w2 b b3 m x gz gzx) := hide ⟨hb2.row (unhide HB).1, hr2, (unhide HB).2.1.trans hb2, (show W.heap.size ≤ b3 by have := (unhide HB).2.1.size; omega), (show b ≠ b3 from fun e => by have := lt_of_some (unhide HB).1; omega)⟩; clear hr2 hs2 hb2 HB; clear c0 c1 c2 c3 c4 c5 c6 c7 c8 c9 c10 c11; obtain ⟨c0, c1, c2, c3, c4, c5, c6, c7, c8, c9, c10, c11⟩ := Mb2.of (unhide HO).row)
    | (refine bx_st rfl 27 (.tmp 3) (.tmp 56) rfl b3 (mg ⟨m.kind, m.frm, m.to, m.term, 0, 0, 0, 0, false, [], [], ⟨#[]⟩⟩ gzx) _ rfl rfl (unhide HO).row3 (szM _ _) rfl (mg_one _ _) ?_; intro w3 hr3 hc3; replace HO : Hid (Md W w3 b b3 m x ⟨m.kind, m.frm, m.to, m.term, 0, 0, 0, 0, false, [], [], ⟨#[]⟩⟩ gzx) := hide ((unhide HO).set hr3 hc3); clear hr3 hc3; clear c0 c1 c2 c3 c4 c5 c6 c7 c8 c9 c10 c11; obtain ⟨c0, c1, c2, c3, c4, c5, c6, c7, c8, c9, c10, c11⟩ := Mb2.of (unhide HO).row)
    | (refine bx_set rfl 23 (.tmp 104) (.tmp 103) rfl b3 4 _ rfl rfl rfl rfl _ 27 (unhide HO).row3 sz23 (show 4 < 12 by decide) ?_; intro w4 hr4 hc4; replace HO : Hid (Md W w4 b b3 m x ⟨m.kind, m.frm, m.to, m.term, m.index, 0, 0, 0, false, [], [], ⟨#[]⟩⟩ gzx) := hide ((unhide HO).set hr4 hc4); clear hr4 hc4; clear c0 c1 c2 c3 c4 c5 c6 c7 c8 c9 c10 c11; obtain ⟨c0, c1, c2, c3, c4, c5, c6, c7, c8, c9, c10, c11⟩ := Mb2.of (unhide HO).row)
    | (refine bx_set rfl 23 (.tmp 107) (.tmp 106) rfl b3 5 _ rfl rfl rfl rfl _ 27 (unhide HO).row3 sz23 (show 5 < 12 by decide) ?_; intro w4 hr4 hc4; replace HO : Hid (Md W w4 b b3 m x ⟨m.kind, m.frm, m.to, m.term, m.index, m.lterm, 0, 0, false, [], [], ⟨#[]⟩⟩ gzx) := hide ((unhide HO).set hr4 hc4); clear hr4 hc4; clear c0 c1 c2 c3 c4 c5 c6 c7 c8 c9 c10 c11; obtain ⟨c0, c1, c2, c3, c4, c5, c6, c7, c8, c9, c10, c11⟩ := Mb2.of (unhide HO).row)
    | (refine bx_set rfl 23 (.tmp 110) (.tmp 109) rfl b3 7 _ rfl rfl rfl rfl _ 27 (unhide HO).row3 sz23 (show 7 < 12 by decide) ?_; intro w4 hr4 hc4; replace HO : Hid (Md W w4 b b3 m x ⟨m.kind, m.frm, m.to, m.term, m.index, m.lterm, 0, m.round, false, [], [], ⟨#[]⟩⟩ gzx) := hide ((unhide HO).set hr4 hc4); clear hr4 hc4; clear c0 c1 c2 c3 c4 c5 c6 c7 c8 c9 c10 c11; obtain ⟨c0, c1, c2, c3, c4, c5, c6, c7, c8, c9, c10, c11⟩ := Mb2.of (unhide HO).row)
    | (refine bx_set rfl 25 (.tmp 113) (.tmp 112) rfl b3 10 _ rfl rfl rfl rfl _ 27 (unhide HO).row3 sz25 (show 10 < 12 by decide) ?_; intro w4 hr4 hc4; replace HO : Hid (Md W w4 b b3 m x ⟨m.kind, m.frm, m.to, m.term, m.index, m.lterm, 0, m.round, false, [], m.mem, ⟨#[]⟩⟩ ⟨none, 0, [], x.ma, x.mc⟩) := hide ((unhide HO).set hr4 hc4); clear hr4 hc4; clear c0 c1 c2 c3 c4 c5 c6 c7 c8 c9 c10 c11; obtain ⟨c0, c1, c2, c3, c4, c5, c6, c7, c8, c9, c10, c11⟩ := Mb2.of (unhide HO).row)
    | (refine bx_set rfl 9 (.tmp 116) (.tmp 115) rfl b3 11 _ rfl rfl rfl rfl _ 27 (unhide HO).row3 sz9 (show 11 < 12 by decide) ?_; intro w4 hr4 hc4; replace HO : Hid (Md W w4 b b3 m x ⟨m.kind, m.frm, m.to, m.term, m.index, m.lterm, 0, m.round, false, [], m.mem, m.snap⟩ ⟨none, 0, [], x.ma, x.mc⟩) := hide ((unhide HO).set hr4 hc4); clear hr4 hc4; clear c0 c1 c2 c3 c4 c5 c6 c7 c8 c9 c10 c11; obtain ⟨c0, c1, c2, c3, c4, c5, c6, c7, c8, c9, c10, c11⟩ := Mb2.of (unhide HO).row)
    | (refine bx_ld rfl 27 (.tmp 3) rfl b3 rfl _ _ (unhide HO).row3 Tryz.underlying27 (szM _ _) ?_)
    | (refine bx_ld rfl 27 (.tmp 1) rfl b rfl _ _ (unhide HO).row Tryz.underlying27 (szM _ _) ?_)
    | go_guarded)
  cases hsb : emptyB (unm m) with
  | false =>
    rw [hsb] at HS
    go_wp2_with (first
      | go_skip
      | (go_at_call 9; refine ((unhide HS) _ ((unhide HGw).bel (unhide HO).bel)).mono ?_; rintro e w6 ⟨rfl, hb6⟩; replace HO := hide ((unhide HO).next hb6); clear hb6; clear c0 c1 c2 c3 c4 c5 c6 c7 c8 c9 c10 c11; obtain ⟨c0, c1, c2, c3, c4, c5, c6, c7, c8, c9, c10, c11⟩ := Mb2.of (unhide HO).row)
      | (refine bx_ld rfl 27 (.tmp 3) rfl b3 rfl _ _ (unhide HO).row3 Tryz.underlying27 (szM _ _) ?_)
      | (refine bx_ld rfl 27 (.tmp 1) rfl b rfl _ _ (unhide HO).row Tryz.underlying27 (szM _ _) ?_)
      | go_guarded)
    go_ret
    exact ⟨by rw [hsb] <;> simp, (unhide HO).bel⟩
  | true =>
    rw [hsb] at HS
    have HSB := hide hsb
    clear hsb
    cases hi : decide (0 < m.index) with
    | false =>
      go_wp2_with (first
        | go_skip
        | (go_at_call 9; refine ((unhide HS) _ ((unhide HGw).bel (unhide HO).bel)).mono ?_; rintro e w6 ⟨rfl, hb6⟩; replace HO := hide ((unhide HO).next hb6); clear hb6; clear c0 c1 c2 c3 c4 c5 c6 c7 c8 c9 c10 c11; obtain ⟨c0, c1, c2, c3, c4, c5, c6, c7, c8, c9, c10, c11⟩ := Mb2.of (unhide HO).row)
        | (refine bx_ld rfl 27 (.tmp 3) rfl b3 rfl _ _ (unhide HO).row3 Tryz.underlying27 (szM _ _) ?_)
        | (refine bx_ld rfl 27 (.tmp 1) rfl b rfl _ _ (unhide HO).row Tryz.underlying27 (szM _ _) ?_)
        | go_guarded)
      go_ret
      exact ⟨by rw [unhide HSB, hi] <;> simp, (unhide HO).bel⟩
    | true =>
      cases hl : decide (0 < m.lterm) with
      | false =>
        go_wp2_with (first
          | go_skip
          | (go_at_call 9; refine ((unhide HS) _ ((unhide HGw).bel (unhide HO).bel)).mono ?_; rintro e w6 ⟨rfl, hb6⟩; replace HO := hide ((unhide HO).next hb6); clear hb6; clear c0 c1 c2 c3 c4 c5 c6 c7 c8 c9 c10 c11; obtain ⟨c0, c1, c2, c3, c4, c5, c6, c7, c8, c9, c10, c11⟩ := Mb2.of (unhide HO).row)
          | (refine bx_ld rfl 27 (.tmp 3) rfl b3 rfl _ _ (unhide HO).row3 Tryz.underlying27 (szM _ _) ?_)
          | (refine bx_ld rfl 27 (.tmp 1) rfl b rfl _ _ (unhide HO).row Tryz.underlying27 (szM _ _) ?_)
          | go_guarded)
        go_ret
        exact ⟨by rw [unhide HSB, hi, hl] <;> simp, (unhide HO).bel⟩
      | true =>
        cases hd : decide (0 < m.mem.length) with
        | false =>
          rw [hd] at hz5
          go_wp2_with (first
            | go_skip
            | (go_at_call 9; refine ((unhide HS) _ ((unhide HGw).bel (unhide HO).bel)).mono ?_; rintro e w6 ⟨rfl, hb6⟩; replace HO := hide ((unhide HO).next hb6); clear hb6; clear c0 c1 c2 c3 c4 c5 c6 c7 c8 c9 c10 c11; obtain ⟨c0, c1, c2, c3, c4, c5, c6, c7, c8, c9, c10, c11⟩ := Mb2.of (unhide HO).row)
            | (refine bx_ld rfl 27 (.tmp 3) rfl b3 rfl _ _ (unhide HO).row3 Tryz.underlying27 (szM _ _) ?_)
            | (refine bx_ld rfl 27 (.tmp 1) rfl b rfl _ _ (unhide HO).row Tryz.underlying27 (szM _ _) ?_)
            | go_guarded)
          go_ret
          exact ⟨by rw [unhide HSB, hi, hl, hd] <;> simp, (unhide HO).bel⟩
        | true =>
          rw [hd] at hz5
          go_wp2_with (first
            | go_skip
            | (go_at_call 9; refine ((unhide HS) _ ((unhide HGw).bel (unhide HO).bel)).mono ?_; rintro e w6 ⟨rfl, hb6⟩; replace HO := hide ((unhide HO).next hb6); clear hb6; clear c0 c1 c2 c3 c4 c5 c6 c7 c8 c9 c10 c11; obtain ⟨c0, c1, c2, c3, c4, c5, c6, c7, c8, c9, c10, c11⟩ := Mb2.of (unhide HO).row)
            | (refine bx_ld rfl 27 (.tmp 3) rfl b3 rfl _ _ (unhide HO).row3 Tryz.underlying27 (szM _ _) ?_)
            | (refine bx_ld rfl 27 (.tmp 1) rfl b rfl _ _ (unhide HO).row Tryz.underlying27 (szM _ _) ?_)
            | (go_at_call 38; refine ((unhide HIs) _ ((unhide HGw).bel (unhide HO).bel)).mono ?_; rintro e w7 ⟨rfl, hb7⟩; replace HO := hide ((unhide HO).next hb7); clear hb7)
            | go_guarded)
          go_ret
          exact ⟨by rw [unhide HSB, hi, hl, hd] <;> simp, (unhide HO).bel⟩
end Go.Proofs.YtgofdkheffoilaaGreat
