/- MayMsg of the document: questions, answers, and what was heard. -/
import Derived.Test.YtgofdkheffoilaaGreatDma
namespace Go.Proofs.YtgofdkheffoilaaGreat
open Go.RowKit Go.Maps
set_option maxRecDepth 100000 in
set_option maxHeartbeats 32000000 in
theorem mm_1 {W : World} {m : GM} {x : GX} (g : Gw W m x) (hl : m.ents.length ≤ 1048576) (hq : ∀ y ∈ x.ls, y.1.m.length ≤ 1048576) (h0 : ∀ y ∈ x.ls, 0 ≤ y.1.k) (h1 : idB m.frm = true) (h2 : idB m.to = true) (h3 : (m.frm == m.to) = false) (h4 : (m.term == 0) = false) (h5 : decide (4611686018427387904 < m.term) = false) (h6 : decide (4611686018427387904 < m.round) = false) (h7 : decide (4611686018427387904 < m.index) = false) (h8 : decide (m.term < m.lterm) = false) (hkk : m.kind = 1) (k1 : (m.kind == 1) = true) (hE : mayMB m = (((m.index == 0) == (m.lterm == 0)) && emptyB (unm m))) : Calls Tryz.prog 10 #[.agg (mg m x)] W fun e w' => e = .returned (.bool (mayMB m)) ∧ Bel W w' := by
  rw [hE]
  clear hE
  have HI1 : Hid (∀ W', Calls Tryz.prog 37 #[.int .i64 m.frm] W' fun e w' => e = .returned (.bool true) ∧ w' = W') := hide (fun W' => by have z := did_any m.frm W'; rwa [h1] at z)
  have HI2 : Hid (∀ W', Calls Tryz.prog 37 #[.int .i64 m.to] W' fun e w' => e = .returned (.bool true) ∧ w' = W') := hide (fun W' => by have z := did_any m.to W'; rwa [h2] at z)
  have HS : Hid (∀ W', Gw W' m x → Calls Tryz.prog 9 #[.agg (mg (x1 m) gzx), .agg (mg m x)] W' fun e w' => e = .returned (.bool (emptyB (unm m))) ∧ Bel W' w') := hide (fun W' g2 => sm1 g2 hkk)
  have HEn : Hid (∀ W', Gw W' m x → Calls Tryz.prog 39 #[.slice x.ea m.ents.length x.ec, .int .u64 m.lterm, .int .u64 m.term] W' fun e w' => e = .returned (.bool (mayEs m.lterm m.term m.ents)) ∧ Bel W' w') := hide (fun W' g2 => by
    have z := dents_any g2.l g2.g x.ec m.lterm m.term (by rw [← List.length_map (f := fun (y : GE × GA) => y.1), g2.e]; omega) (fun y hy => by have := hq y hy; omega) h0
    rw [g2.e, ← List.length_map (f := fun (y : GE × GA) => y.1), g2.e] at z
    exact z)
  have HGw := hide g
  have HLn : Hid (emptyB (unm m) = true → m.ents.length = 0) := hide (fun h => by rw [em1 hkk] at h; simp only [Bool.and_eq_true, decide_eq_true_eq] at h; exact h.1.1.2)
  clear h1 h2 g hl hq h0 hkk
  go_enter Tryz.func10, Tryz.ntmps10
  go_wp2_with (first
    | go_skip
    | (refine bx_box rfl 27 (.tmp 0) rfl (mg m x) rfl ?_; intro b w0 hr0 hs0 hb0; obtain ⟨c0, c1, c2, c3, c4, c5, c6, c7, c8, c9, c10, c11⟩ := Mb2.of hr0; have HB := hide (And.intro hr0 (And.intro hb0 (Nat.le_of_eq hs0))); clear hr0 hs0 hb0)
    | (go_at_call 37; refine ((unhide HI1) _).mono ?_; rintro e w1 ⟨rfl, rfl⟩)
    | (go_at_call 37; refine ((unhide HI2) _).mono ?_; rintro e w1 ⟨rfl, rfl⟩)
    | (refine bx_new rfl 27 rfl _ zeroM ?_; intro b3 w2 hr2 hs2 hb2; have HO : Hid (Md W w2 b b3 m x gz gzx) := hide ⟨hb2.row (unhide HB).1, hr2, (unhide HB).2.1.trans hb2, (show W.heap.size ≤ b3 by have := (unhide HB).2.1.size; omega), (show b ≠ b3 from fun e => by have := lt_of_some (unhide HB).1; omega)⟩; clear hr2 hs2 hb2 HB; clear c0 c1 c2 c3 c4 c5 c6 c7 c8 c9 c10 c11; obtain ⟨c0, c1, c2, c3, c4, c5, c6, c7, c8, c9, c10, c11⟩ := Mb2.of (unhide HO).row)
    | (refine bx_st rfl 27 (.tmp 3) (.tmp 56) rfl b3 (mg ⟨m.kind, m.frm, m.to, m.term, 0, 0, 0, 0, false, [], [], ⟨#[]⟩⟩ gzx) _ rfl rfl (unhide HO).row3 (szM _ _) rfl (mg_one _ _) ?_; intro w3 hr3 hc3; replace HO : Hid (Md W w3 b b3 m x ⟨m.kind, m.frm, m.to, m.term, 0, 0, 0, 0, false, [], [], ⟨#[]⟩⟩ gzx) := hide ((unhide HO).set hr3 hc3); clear hr3 hc3; clear c0 c1 c2 c3 c4 c5 c6 c7 c8 c9 c10 c11; obtain ⟨c0, c1, c2, c3, c4, c5, c6, c7, c8, c9, c10, c11⟩ := Mb2.of (unhide HO).row)
    | (refine bx_set rfl 23 (.tmp 63) (.tmp 62) rfl b3 4 _ rfl rfl rfl rfl _ 27 (unhide HO).row3 sz23 (show 4 < 12 by decide) ?_; intro w4 hr4 hc4; replace HO : Hid (Md W w4 b b3 m x ⟨m.kind, m.frm, m.to, m.term, m.index, 0, 0, 0, false, [], [], ⟨#[]⟩⟩ gzx) := hide ((unhide HO).set hr4 hc4); clear hr4 hc4; clear c0 c1 c2 c3 c4 c5 c6 c7 c8 c9 c10 c11; obtain ⟨c0, c1, c2, c3, c4, c5, c6, c7, c8, c9, c10, c11⟩ := Mb2.of (unhide HO).row)
    | (refine bx_set rfl 23 (.tmp 66) (.tmp 65) rfl b3 5 _ rfl rfl rfl rfl _ 27 (unhide HO).row3 sz23 (show 5 < 12 by decide) ?_; intro w4 hr4 hc4; replace HO : Hid (Md W w4 b b3 m x ⟨m.kind, m.frm, m.to, m.term, m.index, m.lterm, 0, 0, false, [], [], ⟨#[]⟩⟩ gzx) := hide ((unhide HO).set hr4 hc4); clear hr4 hc4; clear c0 c1 c2 c3 c4 c5 c6 c7 c8 c9 c10 c11; obtain ⟨c0, c1, c2, c3, c4, c5, c6, c7, c8, c9, c10, c11⟩ := Mb2.of (unhide HO).row)
    | (refine bx_ld rfl 27 (.tmp 3) rfl b3 rfl _ _ (unhide HO).row3 Tryz.underlying27 (szM _ _) ?_)
    | (refine bx_ld rfl 27 (.tmp 1) rfl b rfl _ _ (unhide HO).row Tryz.underlying27 (szM _ _) ?_)
    | go_guarded)
  cases hsb : emptyB (unm m) with
  | false =>
    rw [hsb] at HS
    go_wp2_with (first
      | go_skip
      | (go_at_call 9; refine ((unhide HS) _ ((unhide HGw).bel (unhide HO).bel)).mono ?_; rintro e w6 ⟨rfl, hb6⟩; replace HO := hide ((unhide HO).next hb6); clear hb6; clear c0 c1 c2 c3 c4 c5 c6 c7 c8 c9 c10 c11; obtain ⟨c0, c1, c2, c3, c4, c5, c6, c7, c8, c9, c10, c11⟩ := Mb2.of (unhide HO).row)
      | (refine bx_ld rfl 27 (.tmp 3) rfl b3 rfl _ _ (unhide HO).row3 Tryz.underlying27 (szM _ _) ?_)
      | (refine bx_ld rfl 27 (.tmp 1) rfl b rfl _ _ (unhide HO).row Tryz.underlying27 (szM _ _) ?_)
      | go_guarded)
    go_ret
    exact ⟨by rw [hsb] <;> simp, (unhide HO).bel⟩
  | true =>
    have hln := (unhide HLn) hsb
    have hd16 : decide ((m.ents.length : Int) ≤ 16) = true := by rw [hln]; rfl
    have HT : Hid (mayEs m.lterm m.term m.ents = true) := hide (by rw [List.eq_nil_of_length_eq_zero hln]; rfl)
    rw [unhide HT] at HEn
    clear hln HT HLn
    rw [hsb] at HS
    have HSB := hide hsb
    clear hsb
    cases hi : (m.index == 0) with
    | false =>
      cases hl : (m.lterm == 0) with
      | false =>
        go_wp2_with (first
          | go_skip
          | (go_at_call 9; refine ((unhide HS) _ ((unhide HGw).bel (unhide HO).bel)).mono ?_; rintro e w6 ⟨rfl, hb6⟩; replace HO := hide ((unhide HO).next hb6); clear hb6; clear c0 c1 c2 c3 c4 c5 c6 c7 c8 c9 c10 c11; obtain ⟨c0, c1, c2, c3, c4, c5, c6, c7, c8, c9, c10, c11⟩ := Mb2.of (unhide HO).row)
          | (refine bx_ld rfl 27 (.tmp 3) rfl b3 rfl _ _ (unhide HO).row3 Tryz.underlying27 (szM _ _) ?_)
          | (refine bx_ld rfl 27 (.tmp 1) rfl b rfl _ _ (unhide HO).row Tryz.underlying27 (szM _ _) ?_)
          | (go_at_call 39; refine ((unhide HEn) _ ((unhide HGw).bel (unhide HO).bel)).mono ?_; rintro e w7 ⟨rfl, hb7⟩; replace HO := hide ((unhide HO).next hb7); clear hb7)
          | go_guarded)
        go_ret
        exact ⟨by rw [unhide HSB, hi, hl] <;> simp, (unhide HO).bel⟩
      | true =>
        go_wp2_with (first
          | go_skip
          | (go_at_call 9; refine ((unhide HS) _ ((unhide HGw).bel (unhide HO).bel)).mono ?_; rintro e w6 ⟨rfl, hb6⟩; replace HO := hide ((unhide HO).next hb6); clear hb6; clear c0 c1 c2 c3 c4 c5 c6 c7 c8 c9 c10 c11; obtain ⟨c0, c1, c2, c3, c4, c5, c6, c7, c8, c9, c10, c11⟩ := Mb2.of (unhide HO).row)
          | (refine bx_ld rfl 27 (.tmp 3) rfl b3 rfl _ _ (unhide HO).row3 Tryz.underlying27 (szM _ _) ?_)
          | (refine bx_ld rfl 27 (.tmp 1) rfl b rfl _ _ (unhide HO).row Tryz.underlying27 (szM _ _) ?_)
          | (go_at_call 39; refine ((unhide HEn) _ ((unhide HGw).bel (unhide HO).bel)).mono ?_; rintro e w7 ⟨rfl, hb7⟩; replace HO := hide ((unhide HO).next hb7); clear hb7)
          | go_guarded)
        go_ret
        exact ⟨by rw [unhide HSB, hi, hl] <;> simp, (unhide HO).bel⟩
    | true =>
      cases hl : (m.lterm == 0) with
      | false =>
        go_wp2_with (first
          | go_skip
          | (go_at_call 9; refine ((unhide HS) _ ((unhide HGw).bel (unhide HO).bel)).mono ?_; rintro e w6 ⟨rfl, hb6⟩; replace HO := hide ((unhide HO).next hb6); clear hb6; clear c0 c1 c2 c3 c4 c5 c6 c7 c8 c9 c10 c11; obtain ⟨c0, c1, c2, c3, c4, c5, c6, c7, c8, c9, c10, c11⟩ := Mb2.of (unhide HO).row)
          | (refine bx_ld rfl 27 (.tmp 3) rfl b3 rfl _ _ (unhide HO).row3 Tryz.underlying27 (szM _ _) ?_)
          | (refine bx_ld rfl 27 (.tmp 1) rfl b rfl _ _ (unhide HO).row Tryz.underlying27 (szM _ _) ?_)
          | (go_at_call 39; refine ((unhide HEn) _ ((unhide HGw).bel (unhide HO).bel)).mono ?_; rintro e w7 ⟨rfl, hb7⟩; replace HO := hide ((unhide HO).next hb7); clear hb7)
          | go_guarded)
        go_ret
        exact ⟨by rw [unhide HSB, hi, hl] <;> simp, (unhide HO).bel⟩
      | true =>
        go_wp2_with (first
          | go_skip
          | (go_at_call 9; refine ((unhide HS) _ ((unhide HGw).bel (unhide HO).bel)).mono ?_; rintro e w6 ⟨rfl, hb6⟩; replace HO := hide ((unhide HO).next hb6); clear hb6; clear c0 c1 c2 c3 c4 c5 c6 c7 c8 c9 c10 c11; obtain ⟨c0, c1, c2, c3, c4, c5, c6, c7, c8, c9, c10, c11⟩ := Mb2.of (unhide HO).row)
          | (refine bx_ld rfl 27 (.tmp 3) rfl b3 rfl _ _ (unhide HO).row3 Tryz.underlying27 (szM _ _) ?_)
          | (refine bx_ld rfl 27 (.tmp 1) rfl b rfl _ _ (unhide HO).row Tryz.underlying27 (szM _ _) ?_)
          | (go_at_call 39; refine ((unhide HEn) _ ((unhide HGw).bel (unhide HO).bel)).mono ?_; rintro e w7 ⟨rfl, hb7⟩; replace HO := hide ((unhide HO).next hb7); clear hb7)
          | go_guarded)
        go_ret
        exact ⟨by rw [unhide HSB, hi, hl] <;> simp, (unhide HO).bel⟩
set_option maxRecDepth 100000 in
set_option maxHeartbeats 32000000 in
theorem mm_2 {W : World} {m : GM} {x : GX} (g : Gw W m x) (hl : m.ents.length ≤ 1048576) (hq : ∀ y ∈ x.ls, y.1.m.length ≤ 1048576) (h0 : ∀ y ∈ x.ls, 0 ≤ y.1.k) (h1 : idB m.frm = true) (h2 : idB m.to = true) (h3 : (m.frm == m.to) = false) (h4 : (m.term == 0) = false) (h5 : decide (4611686018427387904 < m.term) = false) (h6 : decide (4611686018427387904 < m.round) = false) (h7 : decide (4611686018427387904 < m.index) = false) (h8 : decide (m.term < m.lterm) = false) (hkk : m.kind = 2) (k1 : (m.kind == 1) = false) (k2 : (m.kind == 2) = true) (k3 : (m.kind == 3) = false) (hE : mayMB m = emptyB (unm m)) : Calls Tryz.prog 10 #[.agg (mg m x)] W fun e w' => e = .returned (.bool (mayMB m)) ∧ Bel W w' := by
  rw [hE]
  clear hE
  have HI1 : Hid (∀ W', Calls Tryz.prog 37 #[.int .i64 m.frm] W' fun e w' => e = .returned (.bool true) ∧ w' = W') := hide (fun W' => by have z := did_any m.frm W'; rwa [h1] at z)
  have HI2 : Hid (∀ W', Calls Tryz.prog 37 #[.int .i64 m.to] W' fun e w' => e = .returned (.bool true) ∧ w' = W') := hide (fun W' => by have z := did_any m.to W'; rwa [h2] at z)
  have HS : Hid (∀ W', Gw W' m x → Calls Tryz.prog 9 #[.agg (mg (x2 m) gzx), .agg (mg m x)] W' fun e w' => e = .returned (.bool (emptyB (unm m))) ∧ Bel W' w') := hide (fun W' g2 => sm2 g2 hkk)
  have HEn : Hid (∀ W', Gw W' m x → Calls Tryz.prog 39 #[.slice x.ea m.ents.length x.ec, .int .u64 m.lterm, .int .u64 m.term] W' fun e w' => e = .returned (.bool (mayEs m.lterm m.term m.ents)) ∧ Bel W' w') := hide (fun W' g2 => by
    have z := dents_any g2.l g2.g x.ec m.lterm m.term (by rw [← List.length_map (f := fun (y : GE × GA) => y.1), g2.e]; omega) (fun y hy => by have := hq y hy; omega) h0
    rw [g2.e, ← List.length_map (f := fun (y : GE × GA) => y.1), g2.e] at z
    exact z)
  have HGw := hide g
  have HLn : Hid (emptyB (unm m) = true → m.ents.length = 0) := hide (fun h => by rw [em2 hkk] at h; simp only [Bool.and_eq_true, decide_eq_true_eq] at h; exact h.1.1.2)
  clear h1 h2 g hl hq h0 hkk
  go_enter Tryz.func10, Tryz.ntmps10
  go_wp2_with (first
    | go_skip
    | (refine bx_box rfl 27 (.tmp 0) rfl (mg m x) rfl ?_; intro b w0 hr0 hs0 hb0; obtain ⟨c0, c1, c2, c3, c4, c5, c6, c7, c8, c9, c10, c11⟩ := Mb2.of hr0; have HB := hide (And.intro hr0 (And.intro hb0 (Nat.le_of_eq hs0))); clear hr0 hs0 hb0)
    | (go_at_call 37; refine ((unhide HI1) _).mono ?_; rintro e w1 ⟨rfl, rfl⟩)
    | (go_at_call 37; refine ((unhide HI2) _).mono ?_; rintro e w1 ⟨rfl, rfl⟩)
    | (refine bx_new rfl 27 rfl _ zeroM ?_; intro b3 w2 hr2 hs2 hb2; have HO : Hid (Md W w2 b b3 m x gz gzx) := hide ⟨hb2.row (unhide HB).1, hr2, (unhide HB).2.1.trans hb2, (show W.heap.size ≤ b3 by have := (unhide HB).2.1.size; omega), (show b ≠ b3 from fun e => by have := lt_of_some (unhide HB).1; omega)⟩; clear hr2 hs2 hb2 HB; clear c0 c1 c2 c3 c4 c5 c6 c7 c8 c9 c10 c11; obtain ⟨c0, c1, c2, c3, c4, c5, c6, c7, c8, c9, c10, c11⟩ := Mb2.of (unhide HO).row)
    | (refine bx_st rfl 27 (.tmp 3) (.tmp 56) rfl b3 (mg ⟨m.kind, m.frm, m.to, m.term, 0, 0, 0, 0, false, [], [], ⟨#[]⟩⟩ gzx) _ rfl rfl (unhide HO).row3 (szM _ _) rfl (mg_one _ _) ?_; intro w3 hr3 hc3; replace HO : Hid (Md W w3 b b3 m x ⟨m.kind, m.frm, m.to, m.term, 0, 0, 0, 0, false, [], [], ⟨#[]⟩⟩ gzx) := hide ((unhide HO).set hr3 hc3); clear hr3 hc3; clear c0 c1 c2 c3 c4 c5 c6 c7 c8 c9 c10 c11; obtain ⟨c0, c1, c2, c3, c4, c5, c6, c7, c8, c9, c10, c11⟩ := Mb2.of (unhide HO).row)
    | (refine bx_set rfl 4 (.tmp 71) (.tmp 70) rfl b3 8 _ rfl rfl rfl rfl _ 27 (unhide HO).row3 sz4 (show 8 < 12 by decide) ?_; intro w4 hr4 hc4; replace HO : Hid (Md W w4 b b3 m x ⟨m.kind, m.frm, m.to, m.term, 0, 0, 0, 0, m.ok, [], [], ⟨#[]⟩⟩ gzx) := hide ((unhide HO).set hr4 hc4); clear hr4 hc4; clear c0 c1 c2 c3 c4 c5 c6 c7 c8 c9 c10 c11; obtain ⟨c0, c1, c2, c3, c4, c5, c6, c7, c8, c9, c10, c11⟩ := Mb2.of (unhide HO).row)
    | (refine bx_ld rfl 27 (.tmp 3) rfl b3 rfl _ _ (unhide HO).row3 Tryz.underlying27 (szM _ _) ?_)
    | (refine bx_ld rfl 27 (.tmp 1) rfl b rfl _ _ (unhide HO).row Tryz.underlying27 (szM _ _) ?_)
    | go_guarded)
  cases hsb : emptyB (unm m) with
  | false =>
    rw [hsb] at HS
    go_wp2_with (first
      | go_skip
      | (go_at_call 9; refine ((unhide HS) _ ((unhide HGw).bel (unhide HO).bel)).mono ?_; rintro e w6 ⟨rfl, hb6⟩; replace HO := hide ((unhide HO).next hb6); clear hb6; clear c0 c1 c2 c3 c4 c5 c6 c7 c8 c9 c10 c11; obtain ⟨c0, c1, c2, c3, c4, c5, c6, c7, c8, c9, c10, c11⟩ := Mb2.of (unhide HO).row)
      | (refine bx_ld rfl 27 (.tmp 3) rfl b3 rfl _ _ (unhide HO).row3 Tryz.underlying27 (szM _ _) ?_)
      | (refine bx_ld rfl 27 (.tmp 1) rfl b rfl _ _ (unhide HO).row Tryz.underlying27 (szM _ _) ?_)
      | go_guarded)
    go_ret
    exact ⟨by rw [hsb] <;> simp, (unhide HO).bel⟩
  | true =>
    have hln := (unhide HLn) hsb
    have hd16 : decide ((m.ents.length : Int) ≤ 16) = true := by rw [hln]; rfl
    have HT : Hid (mayEs m.lterm m.term m.ents = true) := hide (by rw [List.eq_nil_of_length_eq_zero hln]; rfl)
    rw [unhide HT] at HEn
    clear hln HT HLn
    rw [hsb] at HS
    have HSB := hide hsb
    clear hsb
    go_wp2_with (first
      | go_skip
      | (go_at_call 9; refine ((unhide HS) _ ((unhide HGw).bel (unhide HO).bel)).mono ?_; rintro e w6 ⟨rfl, hb6⟩; replace HO := hide ((unhide HO).next hb6); clear hb6; clear c0 c1 c2 c3 c4 c5 c6 c7 c8 c9 c10 c11; obtain ⟨c0, c1, c2, c3, c4, c5, c6, c7, c8, c9, c10, c11⟩ := Mb2.of (unhide HO).row)
      | (refine bx_ld rfl 27 (.tmp 3) rfl b3 rfl _ _ (unhide HO).row3 Tryz.underlying27 (szM _ _) ?_)
      | (refine bx_ld rfl 27 (.tmp 1) rfl b rfl _ _ (unhide HO).row Tryz.underlying27 (szM _ _) ?_)
      | (go_at_call 39; refine ((unhide HEn) _ ((unhide HGw).bel (unhide HO).bel)).mono ?_; rintro e w7 ⟨rfl, hb7⟩; replace HO := hide ((unhide HO).next hb7); clear hb7)
      | go_guarded)
    go_ret
    exact ⟨by rw [unhide HSB] <;> simp, (unhide HO).bel⟩
set_option maxRecDepth 100000 in
set_option maxHeartbeats 32000000 in
theorem mm_4 {W : World} {m : GM} {x : GX} (g : Gw W m x) (hl : m.ents.length ≤ 1048576) (hq : ∀ y ∈ x.ls, y.1.m.length ≤ 1048576) (h0 : ∀ y ∈ x.ls, 0 ≤ y.1.k) (h1 : idB m.frm = true) (h2 : idB m.to = true) (h3 : (m.frm == m.to) = false) (h4 : (m.term == 0) = false) (h5 : decide (4611686018427387904 < m.term) = false) (h6 : decide (4611686018427387904 < m.round) = false) (h7 : decide (4611686018427387904 < m.index) = false) (h8 : decide (m.term < m.lterm) = false) (hkk : m.kind = 4) (k1 : (m.kind == 1) = false) (k2 : (m.kind == 2) = false) (k3 : (m.kind == 3) = false) (k4 : (m.kind == 4) = true) (hE : mayMB m = emptyB (unm m)) : Calls Tryz.prog 10 #[.agg (mg m x)] W fun e w' => e = .returned (.bool (mayMB m)) ∧ Bel W w' := by
  rw [hE]
  clear hE
  have HI1 : Hid (∀ W', Calls Tryz.prog 37 #[.int .i64 m.frm] W' fun e w' => e = .returned (.bool true) ∧ w' = W') := hide (fun W' => by have z := did_any m.frm W'; rwa [h1] at z)
  have HI2 : Hid (∀ W', Calls Tryz.prog 37 #[.int .i64 m.to] W' fun e w' => e = .returned (.bool true) ∧ w' = W') := hide (fun W' => by have z := did_any m.to W'; rwa [h2] at z)
  have HS : Hid (∀ W', Gw W' m x → Calls Tryz.prog 9 #[.agg (mg (x4 m) gzx), .agg (mg m x)] W' fun e w' => e = .returned (.bool (emptyB (unm m))) ∧ Bel W' w') := hide (fun W' g2 => sm4 g2 hkk)
  have HEn : Hid (∀ W', Gw W' m x → Calls Tryz.prog 39 #[.slice x.ea m.ents.length x.ec, .int .u64 m.lterm, .int .u64 m.term] W' fun e w' => e = .returned (.bool (mayEs m.lterm m.term m.ents)) ∧ Bel W' w') := hide (fun W' g2 => by
    have z := dents_any g2.l g2.g x.ec m.lterm m.term (by rw [← List.length_map (f := fun (y : GE × GA) => y.1), g2.e]; omega) (fun y hy => by have := hq y hy; omega) h0
    rw [g2.e, ← List.length_map (f := fun (y : GE × GA) => y.1), g2.e] at z
    exact z)
  have HGw := hide g
  have HLn : Hid (emptyB (unm m) = true → m.ents.length = 0) := hide (fun h => by rw [em4 hkk] at h; simp only [Bool.and_eq_true, decide_eq_true_eq] at h; exact h.1.1.2)
  clear h1 h2 g hl hq h0 hkk
  go_enter Tryz.func10, Tryz.ntmps10
  go_wp2_with (first
    | go_skip
    | (refine bx_box rfl 27 (.tmp 0) rfl (mg m x) rfl ?_; intro b w0 hr0 hs0 hb0; obtain ⟨c0, c1, c2, c3, c4, c5, c6, c7, c8, c9, c10, c11⟩ := Mb2.of hr0; have HB := hide (And.intro hr0 (And.intro hb0 (Nat.le_of_eq hs0))); clear hr0 hs0 hb0)
    | (go_at_call 37; refine ((unhide HI1) _).mono ?_; rintro e w1 ⟨rfl, rfl⟩)
    | (go_at_call 37; refine ((unhide HI2) _).mono ?_; rintro e w1 ⟨rfl, rfl⟩)
    | (refine bx_new rfl 27 rfl _ zeroM ?_; intro b3 w2 hr2 hs2 hb2; have HO : Hid (Md W w2 b b3 m x gz gzx) := hide ⟨hb2.row (unhide HB).1, hr2, (unhide HB).2.1.trans hb2, (show W.heap.size ≤ b3 by have := (unhide HB).2.1.size; omega), (show b ≠ b3 from fun e => by have := lt_of_some (unhide HB).1; omega)⟩; clear hr2 hs2 hb2 HB; clear c0 c1 c2 c3 c4 c5 c6 c7 c8 c9 c10 c11; obtain ⟨c0, c1, c2, c3, c4, c5, c6, c7, c8, c9, c10, c11⟩ := Mb2.of (unhide HO).row)
    | (refine bx_st rfl 27 (.tmp 3) (.tmp 56) rfl b3 (mg ⟨m.kind, m.frm, m.to, m.term, 0, 0, 0, 0, false, [], [], ⟨#[]⟩⟩ gzx) _ rfl rfl (unhide HO).row3 (szM _ _) rfl (mg_one _ _) ?_; intro w3 hr3 hc3; replace HO : Hid (Md W w3 b b3 m x ⟨m.kind, m.frm, m.to, m.term, 0, 0, 0, 0, false, [], [], ⟨#[]⟩⟩ gzx) := hide ((unhide HO).set hr3 hc3); clear hr3 hc3; clear c0 c1 c2 c3 c4 c5 c6 c7 c8 c9 c10 c11; obtain ⟨c0, c1, c2, c3, c4, c5, c6, c7, c8, c9, c10, c11⟩ := Mb2.of (unhide HO).row)
    | (refine bx_set rfl 4 (.tmp 93) (.tmp 92) rfl b3 8 _ rfl rfl rfl rfl _ 27 (unhide HO).row3 sz4 (show 8 < 12 by decide) ?_; intro w4 hr4 hc4; replace HO : Hid (Md W w4 b b3 m x ⟨m.kind, m.frm, m.to, m.term, 0, 0, 0, 0, m.ok, [], [], ⟨#[]⟩⟩ gzx) := hide ((unhide HO).set hr4 hc4); clear hr4 hc4; clear c0 c1 c2 c3 c4 c5 c6 c7 c8 c9 c10 c11; obtain ⟨c0, c1, c2, c3, c4, c5, c6, c7, c8, c9, c10, c11⟩ := Mb2.of (unhide HO).row)
    | (refine bx_set rfl 23 (.tmp 96) (.tmp 95) rfl b3 4 _ rfl rfl rfl rfl _ 27 (unhide HO).row3 sz23 (show 4 < 12 by decide) ?_; intro w4 hr4 hc4; replace HO : Hid (Md W w4 b b3 m x ⟨m.kind, m.frm, m.to, m.term, m.index, 0, 0, 0, m.ok, [], [], ⟨#[]⟩⟩ gzx) := hide ((unhide HO).set hr4 hc4); clear hr4 hc4; clear c0 c1 c2 c3 c4 c5 c6 c7 c8 c9 c10 c11; obtain ⟨c0, c1, c2, c3, c4, c5, c6, c7, c8, c9, c10, c11⟩ := Mb2.of (unhide HO).row)
    | (refine bx_set rfl 23 (.tmp 99) (.tmp 98) rfl b3 7 _ rfl rfl rfl rfl _ 27 (unhide HO).row3 sz23 (show 7 < 12 by decide) ?_; intro w4 hr4 hc4; replace HO : Hid (Md W w4 b b3 m x ⟨m.kind, m.frm, m.to, m.term, m.index, 0, 0, m.round, m.ok, [], [], ⟨#[]⟩⟩ gzx) := hide ((unhide HO).set hr4 hc4); clear hr4 hc4; clear c0 c1 c2 c3 c4 c5 c6 c7 c8 c9 c10 c11; obtain ⟨c0, c1, c2, c3, c4, c5, c6, c7, c8, c9, c10, c11⟩ := Mb2.of (unhide HO).row)
    | (refine bx_ld rfl 27 (.tmp 3) rfl b3 rfl _ _ (unhide HO).row3 Tryz.underlying27 (szM _ _) ?_)
    | (refine bx_ld rfl 27 (.tmp 1) rfl b rfl _ _ (unhide HO).row Tryz.underlying27 (szM _ _) ?_)
    | go_guarded)
  cases hsb : emptyB (unm m) with
  | false =>
    rw [hsb] at HS
    go_wp2_with (first
      | go_skip
      | (go_at_call 9; refine ((unhide HS) _ ((unhide HGw).bel (unhide HO).bel)).mono ?_; rintro e w6 ⟨rfl, hb6⟩; replace HO := hide ((unhide HO).next hb6); clear hb6; clear c0 c1 c2 c3 c4 c5 c6 c7 c8 c9 c10 c11; obtain ⟨c0, c1, c2, c3, c4, c5, c6, c7, c8, c9, c10, c11⟩ := Mb2.of (unhide HO).row)
      | (refine bx_ld rfl 27 (.tmp 3) rfl b3 rfl _ _ (unhide HO).row3 Tryz.underlying27 (szM _ _) ?_)
      | (refine bx_ld rfl 27 (.tmp 1) rfl b rfl _ _ (unhide HO).row Tryz.underlying27 (szM _ _) ?_)
      | go_guarded)
    go_ret
    exact ⟨by rw [hsb] <;> simp, (unhide HO).bel⟩
  | true =>
    have hln := (unhide HLn) hsb
    have hd16 : decide ((m.ents.length : Int) ≤ 16) = true := by rw [hln]; rfl
    have HT : Hid (mayEs m.lterm m.term m.ents = true) := hide (by rw [List.eq_nil_of_length_eq_zero hln]; rfl)
    rw [unhide HT] at HEn
    clear hln HT HLn
    rw [hsb] at HS
    have HSB := hide hsb
    clear hsb
    go_wp2_with (first
      | go_skip
      | (go_at_call 9; refine ((unhide HS) _ ((unhide HGw).bel (unhide HO).bel)).mono ?_; rintro e w6 ⟨rfl, hb6⟩; replace HO := hide ((unhide HO).next hb6); clear hb6; clear c0 c1 c2 c3 c4 c5 c6 c7 c8 c9 c10 c11; obtain ⟨c0, c1, c2, c3, c4, c5, c6, c7, c8, c9, c10, c11⟩ := Mb2.of (unhide HO).row)
      | (refine bx_ld rfl 27 (.tmp 3) rfl b3 rfl _ _ (unhide HO).row3 Tryz.underlying27 (szM _ _) ?_)
      | (refine bx_ld rfl 27 (.tmp 1) rfl b rfl _ _ (unhide HO).row Tryz.underlying27 (szM _ _) ?_)
      | (go_at_call 39; refine ((unhide HEn) _ ((unhide HGw).bel (unhide HO).bel)).mono ?_; rintro e w7 ⟨rfl, hb7⟩; replace HO := hide ((unhide HO).next hb7); clear hb7)
      | go_guarded)
    go_ret
    exact ⟨by rw [unhide HSB] <;> simp, (unhide HO).bel⟩
end Go.Proofs.YtgofdkheffoilaaGreat
