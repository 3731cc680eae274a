/- mayLog of any member. -/
import Derived.Test.YthekbhliokcpcaaGreatHpe
namespace Go.Proofs.YthekbhliokcpcaaGreat
open Go.RowKit Go.Maps
/-- The log of a member that may be. -/
def logB (s : GP) : Bool := ((s.base == 0) == (s.baseT == 0)) && ((decide (0 < s.base) || s.snap.toList.isEmpty) && (decide (s.baseT ≤ s.term) && (mayEs s.baseT s.term s.log && (decide (s.base ≤ s.commit) && (decide (s.commit ≤ s.lastI))))))
set_option maxRecDepth 100000 in
set_option maxHeartbeats 8000000 in
theorem log_g {W : World} {s : GP} {x : Px} (h : SlG W x.aL s.log) (h0 : 0 ≤ s.base) (h1 : s.base ≤ 4611686018427387904) (hl : s.log.length ≤ 1000000) (hm : ∀ e ∈ s.log, e.m.length ≤ 17592186044416) : Calls Tryz.prog 104 #[.agg (gc s x)] W fun e w' => e = .returned (.bool (logB s)) ∧ Bel W w' := by
  have H1 : Hid (∀ W', Bel W W' → Calls Tryz.prog 79 #[.agg (gc s x)] W' fun e w' => e = .returned (.tuple #[.int .u64 s.lastI, .int .u64 s.lastT]) ∧ Bel W' w') := hide (fun W' hb => last_g (h.bel hb) h0 h1 hl)
  have H2 : Hid (∀ W', Bel W W' → Calls Tryz.prog 151 #[.slice x.aL s.log.length x.cL, .int .u64 s.baseT, .int .u64 s.term] W' fun e w' => e = .returned (.bool (mayEs s.baseT s.term s.log)) ∧ Bel W' w') := hide (fun W' hb => by
    obtain ⟨L, hL, hS, hG⟩ := h
    have := mayEntries_any (hS.bel hb) (hG.bel hb) x.cL s.baseT s.term (by rw [← hL, List.length_map] at hl; omega) (fun y hy => by have := hm _ (by rw [← hL]; exact List.mem_map_of_mem hy); omega)
    rwa [hL, show L.length = s.log.length by rw [← hL, List.length_map]] at this)
  have h0' : ¬ (s.base < 0) := by omega
  clear h h1 hl hm
  generalize hI : s.lastI = i at *
  generalize s.lastT = t at *
  unfold logB
  rw [hI]
  clear hI
  generalize hE : mayEs s.baseT s.term s.log = es at *
  clear hE
  cases e0 : (s.base == 0) with
  | false =>
    cases e1 : (s.baseT == 0) with
    | false =>
      rw [show ((false : Bool) == false) = true from rfl, Bool.true_and]
      have hp : 0 < s.base := by have := beq_eq_false_iff_ne.1 e0; omega
      rw [decide_eq_true hp, Bool.true_or, Bool.true_and]
      by_cases q2 : s.baseT ≤ s.term
      · rw [decide_eq_true q2, Bool.true_and]
        cases es with
        | false =>
          rw [Bool.false_and]
          go_enter Tryz.func104, Tryz.ntmps104
          go_wp2_with (first
            | go_skip
            | go_guarded
            | (refine bx_box rfl 31 _ rfl (gc s x) rfl ?_; intro b w0 hr0 hs0 hb0; have HR0 := hide hr0; have HB0 := hide hb0; clear hr0 hs0 hb0)
            | (refine bx_ld rfl 31 _ rfl b rfl (gc s x) _ (unhide HR0) Tryz.underlying31 (Tryz.sizeP s x) ?_)
            | (go_at_call 79; refine ((unhide H1) _ (unhide HB0)).mono ?_; rintro e w1 ⟨rfl, hb1⟩; obtain ⟨y0, y1, y2, y3, y4, y5, y6, y7, y8, y9, y10, y11, y12, y13, y14, y15, y16, y17⟩ := Bg.of (hb1.row (unhide HR0)); have HB1 := hide ((unhide HB0).trans hb1); clear hb1)
            | (go_at_call 151; refine ((unhide H2) _ (unhide HB1)).mono ?_; rintro e w2 ⟨rfl, hb2⟩; have y26 := hb2.cell y6; have y211 := hb2.cell y11; have HB1 := hide ((unhide HB1).trans hb2); clear hb2))
          go_ret
          exact ⟨rfl, unhide HB1⟩
        | true =>
          rw [Bool.true_and]
          by_cases q4 : s.base ≤ s.commit
          · rw [decide_eq_true q4, Bool.true_and]
            go_enter Tryz.func104, Tryz.ntmps104
            go_wp2_with (first
              | go_skip
              | go_guarded
              | (refine bx_box rfl 31 _ rfl (gc s x) rfl ?_; intro b w0 hr0 hs0 hb0; have HR0 := hide hr0; have HB0 := hide hb0; clear hr0 hs0 hb0)
              | (refine bx_ld rfl 31 _ rfl b rfl (gc s x) _ (unhide HR0) Tryz.underlying31 (Tryz.sizeP s x) ?_)
              | (go_at_call 79; refine ((unhide H1) _ (unhide HB0)).mono ?_; rintro e w1 ⟨rfl, hb1⟩; obtain ⟨y0, y1, y2, y3, y4, y5, y6, y7, y8, y9, y10, y11, y12, y13, y14, y15, y16, y17⟩ := Bg.of (hb1.row (unhide HR0)); have HB1 := hide ((unhide HB0).trans hb1); clear hb1)
              | (go_at_call 151; refine ((unhide H2) _ (unhide HB1)).mono ?_; rintro e w2 ⟨rfl, hb2⟩; have y26 := hb2.cell y6; have y211 := hb2.cell y11; have HB1 := hide ((unhide HB1).trans hb2); clear hb2))
            go_ret
            exact ⟨rfl, unhide HB1⟩
          · rw [decide_eq_false q4, Bool.false_and]
            go_enter Tryz.func104, Tryz.ntmps104
            go_wp2_with (first
              | go_skip
              | go_guarded
              | (refine bx_box rfl 31 _ rfl (gc s x) rfl ?_; intro b w0 hr0 hs0 hb0; have HR0 := hide hr0; have HB0 := hide hb0; clear hr0 hs0 hb0)
              | (refine bx_ld rfl 31 _ rfl b rfl (gc s x) _ (unhide HR0) Tryz.underlying31 (Tryz.sizeP s x) ?_)
              | (go_at_call 79; refine ((unhide H1) _ (unhide HB0)).mono ?_; rintro e w1 ⟨rfl, hb1⟩; obtain ⟨y0, y1, y2, y3, y4, y5, y6, y7, y8, y9, y10, y11, y12, y13, y14, y15, y16, y17⟩ := Bg.of (hb1.row (unhide HR0)); have HB1 := hide ((unhide HB0).trans hb1); clear hb1)
              | (go_at_call 151; refine ((unhide H2) _ (unhide HB1)).mono ?_; rintro e w2 ⟨rfl, hb2⟩; have y26 := hb2.cell y6; have y211 := hb2.cell y11; have HB1 := hide ((unhide HB1).trans hb2); clear hb2))
            go_ret
            exact ⟨rfl, unhide HB1⟩
      · rw [decide_eq_false q2, Bool.false_and]
        go_enter Tryz.func104, Tryz.ntmps104
        go_wp2_with (first
          | go_skip
          | go_guarded
          | (refine bx_box rfl 31 _ rfl (gc s x) rfl ?_; intro b w0 hr0 hs0 hb0; have HR0 := hide hr0; have HB0 := hide hb0; clear hr0 hs0 hb0)
          | (refine bx_ld rfl 31 _ rfl b rfl (gc s x) _ (unhide HR0) Tryz.underlying31 (Tryz.sizeP s x) ?_)
          | (go_at_call 79; refine ((unhide H1) _ (unhide HB0)).mono ?_; rintro e w1 ⟨rfl, hb1⟩; obtain ⟨y0, y1, y2, y3, y4, y5, y6, y7, y8, y9, y10, y11, y12, y13, y14, y15, y16, y17⟩ := Bg.of (hb1.row (unhide HR0)); have HB1 := hide ((unhide HB0).trans hb1); clear hb1)
          | (go_at_call 151; refine ((unhide H2) _ (unhide HB1)).mono ?_; rintro e w2 ⟨rfl, hb2⟩; have y26 := hb2.cell y6; have y211 := hb2.cell y11; have HB1 := hide ((unhide HB1).trans hb2); clear hb2))
        go_ret
        exact ⟨rfl, unhide HB1⟩
    | true =>
      rw [show ((false : Bool) == true) = false from rfl, Bool.false_and]
      go_enter Tryz.func104, Tryz.ntmps104
      go_wp2_with (first
        | go_skip
        | go_guarded
        | (refine bx_box rfl 31 _ rfl (gc s x) rfl ?_; intro b w0 hr0 hs0 hb0; have HR0 := hide hr0; have HB0 := hide hb0; clear hr0 hs0 hb0)
        | (refine bx_ld rfl 31 _ rfl b rfl (gc s x) _ (unhide HR0) Tryz.underlying31 (Tryz.sizeP s x) ?_)
        | (go_at_call 79; refine ((unhide H1) _ (unhide HB0)).mono ?_; rintro e w1 ⟨rfl, hb1⟩; obtain ⟨y0, y1, y2, y3, y4, y5, y6, y7, y8, y9, y10, y11, y12, y13, y14, y15, y16, y17⟩ := Bg.of (hb1.row (unhide HR0)); have HB1 := hide ((unhide HB0).trans hb1); clear hb1)
        | (go_at_call 151; refine ((unhide H2) _ (unhide HB1)).mono ?_; rintro e w2 ⟨rfl, hb2⟩; have y26 := hb2.cell y6; have y211 := hb2.cell y11; have HB1 := hide ((unhide HB1).trans hb2); clear hb2))
      go_ret
      exact ⟨rfl, unhide HB1⟩
  | true =>
    cases e1 : (s.baseT == 0) with
    | false =>
      rw [show ((true : Bool) == false) = false from rfl, Bool.false_and]
      go_enter Tryz.func104, Tryz.ntmps104
      go_wp2_with (first
        | go_skip
        | go_guarded
        | (refine bx_box rfl 31 _ rfl (gc s x) rfl ?_; intro b w0 hr0 hs0 hb0; have HR0 := hide hr0; have HB0 := hide hb0; clear hr0 hs0 hb0)
        | (refine bx_ld rfl 31 _ rfl b rfl (gc s x) _ (unhide HR0) Tryz.underlying31 (Tryz.sizeP s x) ?_)
        | (go_at_call 79; refine ((unhide H1) _ (unhide HB0)).mono ?_; rintro e w1 ⟨rfl, hb1⟩; obtain ⟨y0, y1, y2, y3, y4, y5, y6, y7, y8, y9, y10, y11, y12, y13, y14, y15, y16, y17⟩ := Bg.of (hb1.row (unhide HR0)); have HB1 := hide ((unhide HB0).trans hb1); clear hb1)
        | (go_at_call 151; refine ((unhide H2) _ (unhide HB1)).mono ?_; rintro e w2 ⟨rfl, hb2⟩; have y26 := hb2.cell y6; have y211 := hb2.cell y11; have HB1 := hide ((unhide HB1).trans hb2); clear hb2))
      go_ret
      exact ⟨rfl, unhide HB1⟩
    | true =>
      rw [show ((true : Bool) == true) = true from rfl, Bool.true_and]
      have hp : ¬ 0 < s.base := by have := eq_of_beq e0; omega
      rw [decide_eq_false hp, Bool.false_or]
      cases e2 : s.snap.toList.isEmpty with
      | false =>
        rw [Bool.false_and]
        go_enter Tryz.func104, Tryz.ntmps104
        go_wp2_with (first
          | go_skip
          | go_guarded
          | (refine bx_box rfl 31 _ rfl (gc s x) rfl ?_; intro b w0 hr0 hs0 hb0; have HR0 := hide hr0; have HB0 := hide hb0; clear hr0 hs0 hb0)
          | (refine bx_ld rfl 31 _ rfl b rfl (gc s x) _ (unhide HR0) Tryz.underlying31 (Tryz.sizeP s x) ?_)
          | (go_at_call 79; refine ((unhide H1) _ (unhide HB0)).mono ?_; rintro e w1 ⟨rfl, hb1⟩; obtain ⟨y0, y1, y2, y3, y4, y5, y6, y7, y8, y9, y10, y11, y12, y13, y14, y15, y16, y17⟩ := Bg.of (hb1.row (unhide HR0)); have HB1 := hide ((unhide HB0).trans hb1); clear hb1)
          | (go_at_call 151; refine ((unhide H2) _ (unhide HB1)).mono ?_; rintro e w2 ⟨rfl, hb2⟩; have y26 := hb2.cell y6; have y211 := hb2.cell y11; have HB1 := hide ((unhide HB1).trans hb2); clear hb2))
        go_ret
        exact ⟨rfl, unhide HB1⟩
      | true =>
        rw [Bool.true_and]
        by_cases q2 : s.baseT ≤ s.term
        · rw [decide_eq_true q2, Bool.true_and]
          cases es with
          | false =>
            rw [Bool.false_and]
            go_enter Tryz.func104, Tryz.ntmps104
            go_wp2_with (first
              | go_skip
              | go_guarded
              | (refine bx_box rfl 31 _ rfl (gc s x) rfl ?_; intro b w0 hr0 hs0 hb0; have HR0 := hide hr0; have HB0 := hide hb0; clear hr0 hs0 hb0)
              | (refine bx_ld rfl 31 _ rfl b rfl (gc s x) _ (unhide HR0) Tryz.underlying31 (Tryz.sizeP s x) ?_)
              | (go_at_call 79; refine ((unhide H1) _ (unhide HB0)).mono ?_; rintro e w1 ⟨rfl, hb1⟩; obtain ⟨y0, y1, y2, y3, y4, y5, y6, y7, y8, y9, y10, y11, y12, y13, y14, y15, y16, y17⟩ := Bg.of (hb1.row (unhide HR0)); have HB1 := hide ((unhide HB0).trans hb1); clear hb1)
              | (go_at_call 151; refine ((unhide H2) _ (unhide HB1)).mono ?_; rintro e w2 ⟨rfl, hb2⟩; have y26 := hb2.cell y6; have y211 := hb2.cell y11; have HB1 := hide ((unhide HB1).trans hb2); clear hb2))
            go_ret
            exact ⟨rfl, unhide HB1⟩
          | true =>
            rw [Bool.true_and]
            by_cases q4 : s.base ≤ s.commit
            · rw [decide_eq_true q4, Bool.true_and]
              go_enter Tryz.func104, Tryz.ntmps104
              go_wp2_with (first
                | go_skip
                | go_guarded
                | (refine bx_box rfl 31 _ rfl (gc s x) rfl ?_; intro b w0 hr0 hs0 hb0; have HR0 := hide hr0; have HB0 := hide hb0; clear hr0 hs0 hb0)
                | (refine bx_ld rfl 31 _ rfl b rfl (gc s x) _ (unhide HR0) Tryz.underlying31 (Tryz.sizeP s x) ?_)
                | (go_at_call 79; refine ((unhide H1) _ (unhide HB0)).mono ?_; rintro e w1 ⟨rfl, hb1⟩; obtain ⟨y0, y1, y2, y3, y4, y5, y6, y7, y8, y9, y10, y11, y12, y13, y14, y15, y16, y17⟩ := Bg.of (hb1.row (unhide HR0)); have HB1 := hide ((unhide HB0).trans hb1); clear hb1)
                | (go_at_call 151; refine ((unhide H2) _ (unhide HB1)).mono ?_; rintro e w2 ⟨rfl, hb2⟩; have y26 := hb2.cell y6; have y211 := hb2.cell y11; have HB1 := hide ((unhide HB1).trans hb2); clear hb2))
              go_ret
              exact ⟨rfl, unhide HB1⟩
            · rw [decide_eq_false q4, Bool.false_and]
              go_enter Tryz.func104, Tryz.ntmps104
              go_wp2_with (first
                | go_skip
                | go_guarded
                | (refine bx_box rfl 31 _ rfl (gc s x) rfl ?_; intro b w0 hr0 hs0 hb0; have HR0 := hide hr0; have HB0 := hide hb0; clear hr0 hs0 hb0)
                | (refine bx_ld rfl 31 _ rfl b rfl (gc s x) _ (unhide HR0) Tryz.underlying31 (Tryz.sizeP s x) ?_)
                | (go_at_call 79; refine ((unhide H1) _ (unhide HB0)).mono ?_; rintro e w1 ⟨rfl, hb1⟩; obtain ⟨y0, y1, y2, y3, y4, y5, y6, y7, y8, y9, y10, y11, y12, y13, y14, y15, y16, y17⟩ := Bg.of (hb1.row (unhide HR0)); have HB1 := hide ((unhide HB0).trans hb1); clear hb1)
                | (go_at_call 151; refine ((unhide H2) _ (unhide HB1)).mono ?_; rintro e w2 ⟨rfl, hb2⟩; have y26 := hb2.cell y6; have y211 := hb2.cell y11; have HB1 := hide ((unhide HB1).trans hb2); clear hb2))
              go_ret
              exact ⟨rfl, unhide HB1⟩
        · rw [decide_eq_false q2, Bool.false_and]
          go_enter Tryz.func104, Tryz.ntmps104
          go_wp2_with (first
            | go_skip
            | go_guarded
            | (refine bx_box rfl 31 _ rfl (gc s x) rfl ?_; intro b w0 hr0 hs0 hb0; have HR0 := hide hr0; have HB0 := hide hb0; clear hr0 hs0 hb0)
            | (refine bx_ld rfl 31 _ rfl b rfl (gc s x) _ (unhide HR0) Tryz.underlying31 (Tryz.sizeP s x) ?_)
            | (go_at_call 79; refine ((unhide H1) _ (unhide HB0)).mono ?_; rintro e w1 ⟨rfl, hb1⟩; obtain ⟨y0, y1, y2, y3, y4, y5, y6, y7, y8, y9, y10, y11, y12, y13, y14, y15, y16, y17⟩ := Bg.of (hb1.row (unhide HR0)); have HB1 := hide ((unhide HB0).trans hb1); clear hb1)
            | (go_at_call 151; refine ((unhide H2) _ (unhide HB1)).mono ?_; rintro e w2 ⟨rfl, hb2⟩; have y26 := hb2.cell y6; have y211 := hb2.cell y11; have HB1 := hide ((unhide HB1).trans hb2); clear hb2))
          go_ret
          exact ⟨rfl, unhide HB1⟩
end Go.Proofs.YthekbhliokcpcaaGreat
