/- mayStand of any member. mayLead of any member. mayRole of any member. -/
import Derived.Test.YthekbhliokcpcaaGreatHro
import Derived.Test.YthekbhliokcpcaaGreatHld
import Derived.Test.YthekbhliokcpcaaGreatHfo
namespace Go.Proofs.YthekbhliokcpcaaGreat
open Go.RowKit Go.Maps Go.Sort
/-- A candidate that may be. -/
def standB (s : GP) : Bool := (s.lead == 0) && ((s.vote == s.id) && (aids 0 s.votes && (decide (s.id ∈ s.M) && (decide (s.id ∈ s.votes) && !(s.votes.any fun v => !decide (v ∈ s.M))))))
set_option maxRecDepth 100000 in
set_option maxHeartbeats 8000000 in
theorem stand_g {W : World} {s : GP} {x : Px} (h : Gp W s x) (hM : s.M.length ≤ 17592186044416) (hv : s.votes.length ≤ 17592186044416) : Calls Tryz.prog 154 #[.agg (gc s x)] W fun e w' => e = .returned (.bool (standB s)) ∧ Bel W w' := by
  have H1 : Hid (∀ W', Bel W W' → Calls Tryz.prog 188 #[.slice x.aV s.votes.length x.cV] W' fun e w' => e = .returned (.bool (aids 0 s.votes)) ∧ w' = W') := hide (fun W' hb => areIds_any (h.v.bel hb) x.cV (by omega))
  have H2 : Hid (∀ W', Bel W W' → Calls Tryz.prog 128 #[.agg (gc s x)] W' fun e w' => e = .returned (.bool (decide (s.id ∈ s.M))) ∧ Bel W' w') := hide (fun W' hb => seated_g (h.m.bel hb) hM)
  have H3 : Hid (∀ W', Bel W W' → Calls Tryz.prog 82 #[.slice x.aV s.votes.length x.cV, .int .i64 s.id] W' fun e w' => e = .returned (.bool (decide (s.id ∈ s.votes))) ∧ w' = W') := hide (fun W' hb => contains_any (h.v.bel hb) x.cV s.id (by omega))
  have H4 : Hid (∀ W' b, Bel W W' → W'.heap[b]? = some (.cells (gc s x) 31) → Calls Tryz.prog 191 #[.slice x.aV s.votes.length x.cV, .func (.func 192) #[] #[.pointer (some ⟨b, 0, none⟩)]] W' fun e w' => e = .returned (.bool (s.votes.any fun v => !decide (v ∈ s.M))) ∧ w' = W') := hide (fun W' b hb hr => contf_g hr (h.m.bel hb) hM (h.v.bel hb) x.cV hv)
  clear h hM hv
  unfold standB
  generalize (s.votes.any fun v => !decide (v ∈ s.M)) = bn at *
  generalize decide (s.id ∈ s.votes) = bv at *
  generalize decide (s.id ∈ s.M) = bm at *
  generalize aids 0 s.votes = ba at *
  cases q0 : (s.lead == 0) with
  | false =>
    rw [Bool.false_and]
    go_enter Tryz.func154, Tryz.ntmps154
    go_wp2_with (first
      | go_skip
      | (refine bx_boxK 31 (.tmp 0) (by exact rfl) (by exact rfl) (gc s x) (by exact rfl) ?_; intro b w0 hr0 hs0 hb0; obtain ⟨y0, y1, y2, y3, y4, y5, y6, y7, y8, y9, y10, y11, y12, y13, y14, y15, y16, y17⟩ := Bg.of hr0; have HR0 := hide hr0; have HB0 := hide hb0; clear hr0 hs0 hb0)
      | (refine bx_ldK 31 (.tmp 1) (by exact rfl) b (by exact rfl) (by exact rfl) (gc s x) _ (unhide HR0) Tryz.underlying31 (Tryz.sizeP s x) ?_)
      | (refine bx_ldK 31 (.tmp 1) (by exact rfl) b (by exact rfl) (by exact rfl) (gc s x) _ (unhide HR1) Tryz.underlying31 (Tryz.sizeP s x) ?_)
      | go_guarded
      | (go_at_call 188; refine ((unhide H1) _ (unhide HB0)).mono ?_; rintro e w9 ⟨rfl, hw9⟩; rw [hw9]; clear hw9)
      | (go_at_call 128; refine ((unhide H2) _ (unhide HB0)).mono ?_; rintro e w1 ⟨rfl, hb1⟩; obtain ⟨z0, z1, z2, z3, z4, z5, z6, z7, z8, z9, z10, z11, z12, z13, z14, z15, z16, z17⟩ := Bg.of (hb1.row (unhide HR0)); have HR1 := hide (hb1.row (unhide HR0)); have HB1 := hide ((unhide HB0).trans hb1); clear hb1)
      | (go_at_call 82; refine ((unhide H3) _ (unhide HB1)).mono ?_; rintro e w9 ⟨rfl, hw9⟩; rw [hw9]; clear hw9)
      | (go_at_call 191; refine ((unhide H4) _ _ (unhide HB1) (unhide HR1)).mono ?_; rintro e w9 ⟨rfl, hw9⟩; rw [hw9]; clear hw9))
    go_ret
    first
      | exact ⟨rfl, unhide HB1⟩
      | exact ⟨rfl, unhide HB0⟩
  | true =>
    rw [Bool.true_and]
    cases q1 : (s.vote == s.id) with
    | false =>
      rw [Bool.false_and]
      go_enter Tryz.func154, Tryz.ntmps154
      go_wp2_with (first
        | go_skip
        | (refine bx_boxK 31 (.tmp 0) (by exact rfl) (by exact rfl) (gc s x) (by exact rfl) ?_; intro b w0 hr0 hs0 hb0; obtain ⟨y0, y1, y2, y3, y4, y5, y6, y7, y8, y9, y10, y11, y12, y13, y14, y15, y16, y17⟩ := Bg.of hr0; have HR0 := hide hr0; have HB0 := hide hb0; clear hr0 hs0 hb0)
        | (refine bx_ldK 31 (.tmp 1) (by exact rfl) b (by exact rfl) (by exact rfl) (gc s x) _ (unhide HR0) Tryz.underlying31 (Tryz.sizeP s x) ?_)
        | (refine bx_ldK 31 (.tmp 1) (by exact rfl) b (by exact rfl) (by exact rfl) (gc s x) _ (unhide HR1) Tryz.underlying31 (Tryz.sizeP s x) ?_)
        | go_guarded
        | (go_at_call 188; refine ((unhide H1) _ (unhide HB0)).mono ?_; rintro e w9 ⟨rfl, hw9⟩; rw [hw9]; clear hw9)
        | (go_at_call 128; refine ((unhide H2) _ (unhide HB0)).mono ?_; rintro e w1 ⟨rfl, hb1⟩; obtain ⟨z0, z1, z2, z3, z4, z5, z6, z7, z8, z9, z10, z11, z12, z13, z14, z15, z16, z17⟩ := Bg.of (hb1.row (unhide HR0)); have HR1 := hide (hb1.row (unhide HR0)); have HB1 := hide ((unhide HB0).trans hb1); clear hb1)
        | (go_at_call 82; refine ((unhide H3) _ (unhide HB1)).mono ?_; rintro e w9 ⟨rfl, hw9⟩; rw [hw9]; clear hw9)
        | (go_at_call 191; refine ((unhide H4) _ _ (unhide HB1) (unhide HR1)).mono ?_; rintro e w9 ⟨rfl, hw9⟩; rw [hw9]; clear hw9))
      go_ret
      first
        | exact ⟨rfl, unhide HB1⟩
        | exact ⟨rfl, unhide HB0⟩
    | true =>
      rw [Bool.true_and]
      cases ba with
      | false =>
        rw [Bool.false_and]
        go_enter Tryz.func154, Tryz.ntmps154
        go_wp2_with (first
          | go_skip
          | (refine bx_boxK 31 (.tmp 0) (by exact rfl) (by exact rfl) (gc s x) (by exact rfl) ?_; intro b w0 hr0 hs0 hb0; obtain ⟨y0, y1, y2, y3, y4, y5, y6, y7, y8, y9, y10, y11, y12, y13, y14, y15, y16, y17⟩ := Bg.of hr0; have HR0 := hide hr0; have HB0 := hide hb0; clear hr0 hs0 hb0)
          | (refine bx_ldK 31 (.tmp 1) (by exact rfl) b (by exact rfl) (by exact rfl) (gc s x) _ (unhide HR0) Tryz.underlying31 (Tryz.sizeP s x) ?_)
          | (refine bx_ldK 31 (.tmp 1) (by exact rfl) b (by exact rfl) (by exact rfl) (gc s x) _ (unhide HR1) Tryz.underlying31 (Tryz.sizeP s x) ?_)
          | go_guarded
          | (go_at_call 188; refine ((unhide H1) _ (unhide HB0)).mono ?_; rintro e w9 ⟨rfl, hw9⟩; rw [hw9]; clear hw9)
          | (go_at_call 128; refine ((unhide H2) _ (unhide HB0)).mono ?_; rintro e w1 ⟨rfl, hb1⟩; obtain ⟨z0, z1, z2, z3, z4, z5, z6, z7, z8, z9, z10, z11, z12, z13, z14, z15, z16, z17⟩ := Bg.of (hb1.row (unhide HR0)); have HR1 := hide (hb1.row (unhide HR0)); have HB1 := hide ((unhide HB0).trans hb1); clear hb1)
          | (go_at_call 82; refine ((unhide H3) _ (unhide HB1)).mono ?_; rintro e w9 ⟨rfl, hw9⟩; rw [hw9]; clear hw9)
          | (go_at_call 191; refine ((unhide H4) _ _ (unhide HB1) (unhide HR1)).mono ?_; rintro e w9 ⟨rfl, hw9⟩; rw [hw9]; clear hw9))
        go_ret
        first
          | exact ⟨rfl, unhide HB1⟩
          | exact ⟨rfl, unhide HB0⟩
      | true =>
        rw [Bool.true_and]
        cases bm with
        | false =>
          rw [Bool.false_and]
          go_enter Tryz.func154, Tryz.ntmps154
          go_wp2_with (first
            | go_skip
            | (refine bx_boxK 31 (.tmp 0) (by exact rfl) (by exact rfl) (gc s x) (by exact rfl) ?_; intro b w0 hr0 hs0 hb0; obtain ⟨y0, y1, y2, y3, y4, y5, y6, y7, y8, y9, y10, y11, y12, y13, y14, y15, y16, y17⟩ := Bg.of hr0; have HR0 := hide hr0; have HB0 := hide hb0; clear hr0 hs0 hb0)
            | (refine bx_ldK 31 (.tmp 1) (by exact rfl) b (by exact rfl) (by exact rfl) (gc s x) _ (unhide HR0) Tryz.underlying31 (Tryz.sizeP s x) ?_)
            | (refine bx_ldK 31 (.tmp 1) (by exact rfl) b (by exact rfl) (by exact rfl) (gc s x) _ (unhide HR1) Tryz.underlying31 (Tryz.sizeP s x) ?_)
            | go_guarded
            | (go_at_call 188; refine ((unhide H1) _ (unhide HB0)).mono ?_; rintro e w9 ⟨rfl, hw9⟩; rw [hw9]; clear hw9)
            | (go_at_call 128; refine ((unhide H2) _ (unhide HB0)).mono ?_; rintro e w1 ⟨rfl, hb1⟩; obtain ⟨z0, z1, z2, z3, z4, z5, z6, z7, z8, z9, z10, z11, z12, z13, z14, z15, z16, z17⟩ := Bg.of (hb1.row (unhide HR0)); have HR1 := hide (hb1.row (unhide HR0)); have HB1 := hide ((unhide HB0).trans hb1); clear hb1)
            | (go_at_call 82; refine ((unhide H3) _ (unhide HB1)).mono ?_; rintro e w9 ⟨rfl, hw9⟩; rw [hw9]; clear hw9)
            | (go_at_call 191; refine ((unhide H4) _ _ (unhide HB1) (unhide HR1)).mono ?_; rintro e w9 ⟨rfl, hw9⟩; rw [hw9]; clear hw9))
          go_ret
          first
            | exact ⟨rfl, unhide HB1⟩
            | exact ⟨rfl, unhide HB0⟩
        | true =>
          rw [Bool.true_and]
          cases bv with
          | false =>
            rw [Bool.false_and]
            go_enter Tryz.func154, Tryz.ntmps154
            go_wp2_with (first
              | go_skip
              | (refine bx_boxK 31 (.tmp 0) (by exact rfl) (by exact rfl) (gc s x) (by exact rfl) ?_; intro b w0 hr0 hs0 hb0; obtain ⟨y0, y1, y2, y3, y4, y5, y6, y7, y8, y9, y10, y11, y12, y13, y14, y15, y16, y17⟩ := Bg.of hr0; have HR0 := hide hr0; have HB0 := hide hb0; clear hr0 hs0 hb0)
              | (refine bx_ldK 31 (.tmp 1) (by exact rfl) b (by exact rfl) (by exact rfl) (gc s x) _ (unhide HR0) Tryz.underlying31 (Tryz.sizeP s x) ?_)
              | (refine bx_ldK 31 (.tmp 1) (by exact rfl) b (by exact rfl) (by exact rfl) (gc s x) _ (unhide HR1) Tryz.underlying31 (Tryz.sizeP s x) ?_)
              | go_guarded
              | (go_at_call 188; refine ((unhide H1) _ (unhide HB0)).mono ?_; rintro e w9 ⟨rfl, hw9⟩; rw [hw9]; clear hw9)
              | (go_at_call 128; refine ((unhide H2) _ (unhide HB0)).mono ?_; rintro e w1 ⟨rfl, hb1⟩; obtain ⟨z0, z1, z2, z3, z4, z5, z6, z7, z8, z9, z10, z11, z12, z13, z14, z15, z16, z17⟩ := Bg.of (hb1.row (unhide HR0)); have HR1 := hide (hb1.row (unhide HR0)); have HB1 := hide ((unhide HB0).trans hb1); clear hb1)
              | (go_at_call 82; refine ((unhide H3) _ (unhide HB1)).mono ?_; rintro e w9 ⟨rfl, hw9⟩; rw [hw9]; clear hw9)
              | (go_at_call 191; refine ((unhide H4) _ _ (unhide HB1) (unhide HR1)).mono ?_; rintro e w9 ⟨rfl, hw9⟩; rw [hw9]; clear hw9))
            go_ret
            first
              | exact ⟨rfl, unhide HB1⟩
              | exact ⟨rfl, unhide HB0⟩
          | true =>
            rw [Bool.true_and]
            cases bn with
            | false =>
              go_enter Tryz.func154, Tryz.ntmps154
              go_wp2_with (first
                | go_skip
                | (refine bx_boxK 31 (.tmp 0) (by exact rfl) (by exact rfl) (gc s x) (by exact rfl) ?_; intro b w0 hr0 hs0 hb0; obtain ⟨y0, y1, y2, y3, y4, y5, y6, y7, y8, y9, y10, y11, y12, y13, y14, y15, y16, y17⟩ := Bg.of hr0; have HR0 := hide hr0; have HB0 := hide hb0; clear hr0 hs0 hb0)
                | (refine bx_ldK 31 (.tmp 1) (by exact rfl) b (by exact rfl) (by exact rfl) (gc s x) _ (unhide HR0) Tryz.underlying31 (Tryz.sizeP s x) ?_)
                | (refine bx_ldK 31 (.tmp 1) (by exact rfl) b (by exact rfl) (by exact rfl) (gc s x) _ (unhide HR1) Tryz.underlying31 (Tryz.sizeP s x) ?_)
                | go_guarded
                | (go_at_call 188; refine ((unhide H1) _ (unhide HB0)).mono ?_; rintro e w9 ⟨rfl, hw9⟩; rw [hw9]; clear hw9)
                | (go_at_call 128; refine ((unhide H2) _ (unhide HB0)).mono ?_; rintro e w1 ⟨rfl, hb1⟩; obtain ⟨z0, z1, z2, z3, z4, z5, z6, z7, z8, z9, z10, z11, z12, z13, z14, z15, z16, z17⟩ := Bg.of (hb1.row (unhide HR0)); have HR1 := hide (hb1.row (unhide HR0)); have HB1 := hide ((unhide HB0).trans hb1); clear hb1)
                | (go_at_call 82; refine ((unhide H3) _ (unhide HB1)).mono ?_; rintro e w9 ⟨rfl, hw9⟩; rw [hw9]; clear hw9)
                | (go_at_call 191; refine ((unhide H4) _ _ (unhide HB1) (unhide HR1)).mono ?_; rintro e w9 ⟨rfl, hw9⟩; rw [hw9]; clear hw9))
              go_ret
              first
                | exact ⟨rfl, unhide HB1⟩
                | exact ⟨rfl, unhide HB0⟩
            | true =>
              go_enter Tryz.func154, Tryz.ntmps154
              go_wp2_with (first
                | go_skip
                | (refine bx_boxK 31 (.tmp 0) (by exact rfl) (by exact rfl) (gc s x) (by exact rfl) ?_; intro b w0 hr0 hs0 hb0; obtain ⟨y0, y1, y2, y3, y4, y5, y6, y7, y8, y9, y10, y11, y12, y13, y14, y15, y16, y17⟩ := Bg.of hr0; have HR0 := hide hr0; have HB0 := hide hb0; clear hr0 hs0 hb0)
                | (refine bx_ldK 31 (.tmp 1) (by exact rfl) b (by exact rfl) (by exact rfl) (gc s x) _ (unhide HR0) Tryz.underlying31 (Tryz.sizeP s x) ?_)
                | (refine bx_ldK 31 (.tmp 1) (by exact rfl) b (by exact rfl) (by exact rfl) (gc s x) _ (unhide HR1) Tryz.underlying31 (Tryz.sizeP s x) ?_)
                | go_guarded
                | (go_at_call 188; refine ((unhide H1) _ (unhide HB0)).mono ?_; rintro e w9 ⟨rfl, hw9⟩; rw [hw9]; clear hw9)
                | (go_at_call 128; refine ((unhide H2) _ (unhide HB0)).mono ?_; rintro e w1 ⟨rfl, hb1⟩; obtain ⟨z0, z1, z2, z3, z4, z5, z6, z7, z8, z9, z10, z11, z12, z13, z14, z15, z16, z17⟩ := Bg.of (hb1.row (unhide HR0)); have HR1 := hide (hb1.row (unhide HR0)); have HB1 := hide ((unhide HB0).trans hb1); clear hb1)
                | (go_at_call 82; refine ((unhide H3) _ (unhide HB1)).mono ?_; rintro e w9 ⟨rfl, hw9⟩; rw [hw9]; clear hw9)
                | (go_at_call 191; refine ((unhide H4) _ _ (unhide HB1) (unhide HR1)).mono ?_; rintro e w9 ⟨rfl, hw9⟩; rw [hw9]; clear hw9))
              go_ret
              first
                | exact ⟨rfl, unhide HB1⟩
                | exact ⟨rfl, unhide HB0⟩
end Go.Proofs.YthekbhliokcpcaaGreat
namespace Go.Proofs.YthekbhliokcpcaaGreat
open Go.RowKit Go.Maps Go.Sort
/-- A leader that may be. -/
def leadB (s : GP) : Bool := (s.lead == s.id) && (decide (0 < s.term) && (((s.votes.length : Int) == 0) && (folB s && reaB s)))
set_option maxRecDepth 100000 in
set_option maxHeartbeats 8000000 in
theorem lead_g {W : World} {s : GP} {x : Px} (h : Gp W s x) (h0 : 0 ≤ s.base) (h1 : s.base ≤ 4611686018427387904) (hM : 0 < s.M.length) (hM2 : s.M.length ≤ 1000000) (hl : s.log.length ≤ 1000000) (hr : s.reads.length ≤ 1000000) (hra : ∀ r ∈ s.reads, r.a.length ≤ 17592186044416) : Calls Tryz.prog 153 #[.agg (gc s x)] W fun e w' => e = .returned (.bool (leadB s)) ∧ Bel W w' := by
  have H1 : Hid (∀ W', Bel W W' → Calls Tryz.prog 189 #[.agg (gc s x)] W' fun e w' => e = .returned (.bool (folB s)) ∧ Bel W' w') := hide (fun W' hb => follows_g (h.bel hb) h0 h1 hM hM2 hl)
  have H2 : Hid (∀ W', Bel W W' → Calls Tryz.prog 190 #[.agg (gc s x)] W' fun e w' => e = .returned (.bool (reaB s)) ∧ Bel W' w') := hide (fun W' hb => reads_g (h.r.bel hb) hr hra)
  clear h hM hM2 hl hr hra h0 h1
  unfold leadB
  generalize folB s = bf at *
  generalize reaB s = br at *
  generalize hvn : s.votes.length = vn at *
  cases q0 : (s.lead == s.id) with
  | false =>
    rw [Bool.false_and]
    go_enter Tryz.func153, Tryz.ntmps153
    go_wp2_with (first
      | go_skip
      | (refine bx_boxK 31 (.tmp 0) (by exact rfl) (by exact rfl) (gc s x) (by exact rfl) ?_; intro b w0 hr0 hs0 hb0; obtain ⟨y0, y1, y2, y3, y4, y5, y6, y7, y8, y9, y10, y11, y12, y13, y14, y15, y16, y17⟩ := Bg.of hr0; rw [hvn] at y14; have HR0 := hide hr0; have HB0 := hide hb0; clear hr0 hs0 hb0)
      | (refine bx_ldK 31 (.tmp 1) (by exact rfl) b (by exact rfl) (by exact rfl) (gc s x) _ (unhide HR0) Tryz.underlying31 (Tryz.sizeP s x) ?_)
      | (refine bx_ldK 31 (.tmp 1) (by exact rfl) b (by exact rfl) (by exact rfl) (gc s x) _ (unhide HR1) Tryz.underlying31 (Tryz.sizeP s x) ?_)
      | go_guarded
      | (go_at_call 189; refine ((unhide H1) _ (unhide HB0)).mono ?_; rintro e w1 ⟨rfl, hb1⟩; have HR1 := hide (hb1.row (unhide HR0)); have HB1 := hide ((unhide HB0).trans hb1); clear hb1)
      | (go_at_call 190; refine ((unhide H2) _ (unhide HB1)).mono ?_; rintro e w2 ⟨rfl, hb2⟩; have HB2 := hide ((unhide HB1).trans hb2); clear hb2))
    go_ret
    first
      | exact ⟨rfl, unhide HB2⟩
      | exact ⟨rfl, unhide HB1⟩
      | exact ⟨rfl, unhide HB0⟩
  | true =>
    rw [Bool.true_and]
    by_cases q1 : 0 < s.term
    · rw [decide_eq_true q1, Bool.true_and]
      cases q2 : ((vn : Int) == 0) with
      | false =>
        rw [Bool.false_and]
        go_enter Tryz.func153, Tryz.ntmps153
        go_wp2_with (first
          | go_skip
          | (refine bx_boxK 31 (.tmp 0) (by exact rfl) (by exact rfl) (gc s x) (by exact rfl) ?_; intro b w0 hr0 hs0 hb0; obtain ⟨y0, y1, y2, y3, y4, y5, y6, y7, y8, y9, y10, y11, y12, y13, y14, y15, y16, y17⟩ := Bg.of hr0; rw [hvn] at y14; have HR0 := hide hr0; have HB0 := hide hb0; clear hr0 hs0 hb0)
          | (refine bx_ldK 31 (.tmp 1) (by exact rfl) b (by exact rfl) (by exact rfl) (gc s x) _ (unhide HR0) Tryz.underlying31 (Tryz.sizeP s x) ?_)
          | (refine bx_ldK 31 (.tmp 1) (by exact rfl) b (by exact rfl) (by exact rfl) (gc s x) _ (unhide HR1) Tryz.underlying31 (Tryz.sizeP s x) ?_)
          | go_guarded
          | (go_at_call 189; refine ((unhide H1) _ (unhide HB0)).mono ?_; rintro e w1 ⟨rfl, hb1⟩; have HR1 := hide (hb1.row (unhide HR0)); have HB1 := hide ((unhide HB0).trans hb1); clear hb1)
          | (go_at_call 190; refine ((unhide H2) _ (unhide HB1)).mono ?_; rintro e w2 ⟨rfl, hb2⟩; have HB2 := hide ((unhide HB1).trans hb2); clear hb2))
        go_ret
        first
          | exact ⟨rfl, unhide HB2⟩
          | exact ⟨rfl, unhide HB1⟩
          | exact ⟨rfl, unhide HB0⟩
      | true =>
        rw [Bool.true_and]
        cases bf with
        | false =>
          rw [Bool.false_and]
          go_enter Tryz.func153, Tryz.ntmps153
          go_wp2_with (first
            | go_skip
            | (refine bx_boxK 31 (.tmp 0) (by exact rfl) (by exact rfl) (gc s x) (by exact rfl) ?_; intro b w0 hr0 hs0 hb0; obtain ⟨y0, y1, y2, y3, y4, y5, y6, y7, y8, y9, y10, y11, y12, y13, y14, y15, y16, y17⟩ := Bg.of hr0; rw [hvn] at y14; have HR0 := hide hr0; have HB0 := hide hb0; clear hr0 hs0 hb0)
            | (refine bx_ldK 31 (.tmp 1) (by exact rfl) b (by exact rfl) (by exact rfl) (gc s x) _ (unhide HR0) Tryz.underlying31 (Tryz.sizeP s x) ?_)
            | (refine bx_ldK 31 (.tmp 1) (by exact rfl) b (by exact rfl) (by exact rfl) (gc s x) _ (unhide HR1) Tryz.underlying31 (Tryz.sizeP s x) ?_)
            | go_guarded
            | (go_at_call 189; refine ((unhide H1) _ (unhide HB0)).mono ?_; rintro e w1 ⟨rfl, hb1⟩; have HR1 := hide (hb1.row (unhide HR0)); have HB1 := hide ((unhide HB0).trans hb1); clear hb1)
            | (go_at_call 190; refine ((unhide H2) _ (unhide HB1)).mono ?_; rintro e w2 ⟨rfl, hb2⟩; have HB2 := hide ((unhide HB1).trans hb2); clear hb2))
          go_ret
          first
            | exact ⟨rfl, unhide HB2⟩
            | exact ⟨rfl, unhide HB1⟩
            | exact ⟨rfl, unhide HB0⟩
        | true =>
          rw [Bool.true_and]
          cases br with
          | false =>
            go_enter Tryz.func153, Tryz.ntmps153
            go_wp2_with (first
              | go_skip
              | (refine bx_boxK 31 (.tmp 0) (by exact rfl) (by exact rfl) (gc s x) (by exact rfl) ?_; intro b w0 hr0 hs0 hb0; obtain ⟨y0, y1, y2, y3, y4, y5, y6, y7, y8, y9, y10, y11, y12, y13, y14, y15, y16, y17⟩ := Bg.of hr0; rw [hvn] at y14; have HR0 := hide hr0; have HB0 := hide hb0; clear hr0 hs0 hb0)
              | (refine bx_ldK 31 (.tmp 1) (by exact rfl) b (by exact rfl) (by exact rfl) (gc s x) _ (unhide HR0) Tryz.underlying31 (Tryz.sizeP s x) ?_)
              | (refine bx_ldK 31 (.tmp 1) (by exact rfl) b (by exact rfl) (by exact rfl) (gc s x) _ (unhide HR1) Tryz.underlying31 (Tryz.sizeP s x) ?_)
              | go_guarded
              | (go_at_call 189; refine ((unhide H1) _ (unhide HB0)).mono ?_; rintro e w1 ⟨rfl, hb1⟩; have HR1 := hide (hb1.row (unhide HR0)); have HB1 := hide ((unhide HB0).trans hb1); clear hb1)
              | (go_at_call 190; refine ((unhide H2) _ (unhide HB1)).mono ?_; rintro e w2 ⟨rfl, hb2⟩; have HB2 := hide ((unhide HB1).trans hb2); clear hb2))
            go_ret
            first
              | exact ⟨rfl, unhide HB2⟩
              | exact ⟨rfl, unhide HB1⟩
              | exact ⟨rfl, unhide HB0⟩
          | true =>
            go_enter Tryz.func153, Tryz.ntmps153
            go_wp2_with (first
              | go_skip
              | (refine bx_boxK 31 (.tmp 0) (by exact rfl) (by exact rfl) (gc s x) (by exact rfl) ?_; intro b w0 hr0 hs0 hb0; obtain ⟨y0, y1, y2, y3, y4, y5, y6, y7, y8, y9, y10, y11, y12, y13, y14, y15, y16, y17⟩ := Bg.of hr0; rw [hvn] at y14; have HR0 := hide hr0; have HB0 := hide hb0; clear hr0 hs0 hb0)
              | (refine bx_ldK 31 (.tmp 1) (by exact rfl) b (by exact rfl) (by exact rfl) (gc s x) _ (unhide HR0) Tryz.underlying31 (Tryz.sizeP s x) ?_)
              | (refine bx_ldK 31 (.tmp 1) (by exact rfl) b (by exact rfl) (by exact rfl) (gc s x) _ (unhide HR1) Tryz.underlying31 (Tryz.sizeP s x) ?_)
              | go_guarded
              | (go_at_call 189; refine ((unhide H1) _ (unhide HB0)).mono ?_; rintro e w1 ⟨rfl, hb1⟩; have HR1 := hide (hb1.row (unhide HR0)); have HB1 := hide ((unhide HB0).trans hb1); clear hb1)
              | (go_at_call 190; refine ((unhide H2) _ (unhide HB1)).mono ?_; rintro e w2 ⟨rfl, hb2⟩; have HB2 := hide ((unhide HB1).trans hb2); clear hb2))
            go_ret
            first
              | exact ⟨rfl, unhide HB2⟩
              | exact ⟨rfl, unhide HB1⟩
              | exact ⟨rfl, unhide HB0⟩
    · rw [decide_eq_false q1, Bool.false_and]
      go_enter Tryz.func153, Tryz.ntmps153
      go_wp2_with (first
        | go_skip
        | (refine bx_boxK 31 (.tmp 0) (by exact rfl) (by exact rfl) (gc s x) (by exact rfl) ?_; intro b w0 hr0 hs0 hb0; obtain ⟨y0, y1, y2, y3, y4, y5, y6, y7, y8, y9, y10, y11, y12, y13, y14, y15, y16, y17⟩ := Bg.of hr0; rw [hvn] at y14; have HR0 := hide hr0; have HB0 := hide hb0; clear hr0 hs0 hb0)
        | (refine bx_ldK 31 (.tmp 1) (by exact rfl) b (by exact rfl) (by exact rfl) (gc s x) _ (unhide HR0) Tryz.underlying31 (Tryz.sizeP s x) ?_)
        | (refine bx_ldK 31 (.tmp 1) (by exact rfl) b (by exact rfl) (by exact rfl) (gc s x) _ (unhide HR1) Tryz.underlying31 (Tryz.sizeP s x) ?_)
        | go_guarded
        | (go_at_call 189; refine ((unhide H1) _ (unhide HB0)).mono ?_; rintro e w1 ⟨rfl, hb1⟩; have HR1 := hide (hb1.row (unhide HR0)); have HB1 := hide ((unhide HB0).trans hb1); clear hb1)
        | (go_at_call 190; refine ((unhide H2) _ (unhide HB1)).mono ?_; rintro e w2 ⟨rfl, hb2⟩; have HB2 := hide ((unhide HB1).trans hb2); clear hb2))
      go_ret
      first
        | exact ⟨rfl, unhide HB2⟩
        | exact ⟨rfl, unhide HB1⟩
        | exact ⟨rfl, unhide HB0⟩
end Go.Proofs.YthekbhliokcpcaaGreat
namespace Go.Proofs.YthekbhliokcpcaaGreat
open Go.RowKit Go.Maps Go.Sort
/-- A role that may be. -/
def rolB (s : GP) : Bool := if s.role = 2 then leadB s else if 0 < s.fol.length ∨ 0 < s.reads.length then false else if s.role = 1 then standB s else ((s.votes.length : Int) == 0)
set_option maxRecDepth 100000 in
set_option maxHeartbeats 8000000 in
theorem role_g {W : World} {s : GP} {x : Px} (h : Gp W s x) (h0 : 0 ≤ s.base) (h1 : s.base ≤ 4611686018427387904) (hM : 0 < s.M.length) (hM2 : s.M.length ≤ 1000000) (hv : s.votes.length ≤ 17592186044416) (hl : s.log.length ≤ 1000000) (hr : s.reads.length ≤ 1000000) (hra : ∀ r ∈ s.reads, r.a.length ≤ 17592186044416) : Calls Tryz.prog 106 #[.agg (gc s x)] W fun e w' => e = .returned (.bool (rolB s)) ∧ Bel W w' := by
  have H1 : Hid (∀ W', Bel W W' → Calls Tryz.prog 153 #[.agg (gc s x)] W' fun e w' => e = .returned (.bool (leadB s)) ∧ Bel W' w') := hide (fun W' hb => lead_g (h.bel hb) h0 h1 hM hM2 hl hr hra)
  have H2 : Hid (∀ W', Bel W W' → Calls Tryz.prog 154 #[.agg (gc s x)] W' fun e w' => e = .returned (.bool (standB s)) ∧ Bel W' w') := hide (fun W' hb => stand_g (h.bel hb) (by omega) hv)
  clear h hM hM2 hl hr hra hv h0 h1
  unfold rolB
  generalize leadB s = bl at *
  generalize standB s = bs at *
  generalize hfn : s.fol.length = fn at *
  generalize hrn : s.reads.length = rn at *
  generalize hvn : s.votes.length = vn at *
  by_cases k2 : s.role = 2
  · rw [if_pos k2]
    have e2 : (s.role == 2) = true := by simp [k2]
    clear k2
    go_enter Tryz.func106, Tryz.ntmps106
    go_wp2_with (first
      | go_skip
      | (refine bx_boxK 31 (.tmp 0) (by exact rfl) (by exact rfl) (gc s x) (by exact rfl) ?_; intro b w0 hr0 hs0 hb0; obtain ⟨y0, y1, y2, y3, y4, y5, y6, y7, y8, y9, y10, y11, y12, y13, y14, y15, y16, y17⟩ := Bg.of hr0; rw [hvn] at y14; rw [hfn] at y15; rw [hrn] at y17; have HR0 := hide hr0; have HB0 := hide hb0; clear hr0 hs0 hb0)
      | (refine bx_ldK 31 (.tmp 1) (by exact rfl) b (by exact rfl) (by exact rfl) (gc s x) _ (unhide HR0) Tryz.underlying31 (Tryz.sizeP s x) ?_)
      | go_guarded
      | (go_at_call 153; refine ((unhide H1) _ (unhide HB0)).mono ?_; rintro e w1 ⟨rfl, hb1⟩; have HB1 := hide ((unhide HB0).trans hb1); clear hb1)
      | (go_at_call 154; refine ((unhide H2) _ (unhide HB0)).mono ?_; rintro e w1 ⟨rfl, hb1⟩; have HB1 := hide ((unhide HB0).trans hb1); clear hb1))
    go_ret
    first
      | exact ⟨rfl, unhide HB1⟩
      | exact ⟨rfl, unhide HB0⟩
  · rw [if_neg k2]
    have e2 : (s.role == 2) = false := by simp [k2]
    by_cases kf : 0 < fn
    · rw [if_pos (Or.inl kf)]
      have kf2 : (0 : Int) < fn := by omega
      go_enter Tryz.func106, Tryz.ntmps106
      go_wp2_with (first
        | go_skip
        | (refine bx_boxK 31 (.tmp 0) (by exact rfl) (by exact rfl) (gc s x) (by exact rfl) ?_; intro b w0 hr0 hs0 hb0; obtain ⟨y0, y1, y2, y3, y4, y5, y6, y7, y8, y9, y10, y11, y12, y13, y14, y15, y16, y17⟩ := Bg.of hr0; rw [hvn] at y14; rw [hfn] at y15; rw [hrn] at y17; have HR0 := hide hr0; have HB0 := hide hb0; clear hr0 hs0 hb0)
        | (refine bx_ldK 31 (.tmp 1) (by exact rfl) b (by exact rfl) (by exact rfl) (gc s x) _ (unhide HR0) Tryz.underlying31 (Tryz.sizeP s x) ?_)
        | go_guarded
        | (go_at_call 153; refine ((unhide H1) _ (unhide HB0)).mono ?_; rintro e w1 ⟨rfl, hb1⟩; have HB1 := hide ((unhide HB0).trans hb1); clear hb1)
        | (go_at_call 154; refine ((unhide H2) _ (unhide HB0)).mono ?_; rintro e w1 ⟨rfl, hb1⟩; have HB1 := hide ((unhide HB0).trans hb1); clear hb1))
      go_ret
      first
        | exact ⟨rfl, unhide HB1⟩
        | exact ⟨rfl, unhide HB0⟩
    · have kf2 : ¬ ((0 : Int) < fn) := by omega
      by_cases kr : 0 < rn
      · rw [if_pos (Or.inr kr)]
        have kr2 : (0 : Int) < rn := by omega
        go_enter Tryz.func106, Tryz.ntmps106
        go_wp2_with (first
          | go_skip
          | (refine bx_boxK 31 (.tmp 0) (by exact rfl) (by exact rfl) (gc s x) (by exact rfl) ?_; intro b w0 hr0 hs0 hb0; obtain ⟨y0, y1, y2, y3, y4, y5, y6, y7, y8, y9, y10, y11, y12, y13, y14, y15, y16, y17⟩ := Bg.of hr0; rw [hvn] at y14; rw [hfn] at y15; rw [hrn] at y17; have HR0 := hide hr0; have HB0 := hide hb0; clear hr0 hs0 hb0)
          | (refine bx_ldK 31 (.tmp 1) (by exact rfl) b (by exact rfl) (by exact rfl) (gc s x) _ (unhide HR0) Tryz.underlying31 (Tryz.sizeP s x) ?_)
          | go_guarded
          | (go_at_call 153; refine ((unhide H1) _ (unhide HB0)).mono ?_; rintro e w1 ⟨rfl, hb1⟩; have HB1 := hide ((unhide HB0).trans hb1); clear hb1)
          | (go_at_call 154; refine ((unhide H2) _ (unhide HB0)).mono ?_; rintro e w1 ⟨rfl, hb1⟩; have HB1 := hide ((unhide HB0).trans hb1); clear hb1))
        go_ret
        first
          | exact ⟨rfl, unhide HB1⟩
          | exact ⟨rfl, unhide HB0⟩
      · rw [if_neg (by omega)]
        have kr2 : ¬ ((0 : Int) < rn) := by omega
        by_cases k1 : s.role = 1
        · rw [if_pos k1]
          have e1 : (s.role == 1) = true := by simp [k1]
          clear k1 k2
          go_enter Tryz.func106, Tryz.ntmps106
          go_wp2_with (first
            | go_skip
            | (refine bx_boxK 31 (.tmp 0) (by exact rfl) (by exact rfl) (gc s x) (by exact rfl) ?_; intro b w0 hr0 hs0 hb0; obtain ⟨y0, y1, y2, y3, y4, y5, y6, y7, y8, y9, y10, y11, y12, y13, y14, y15, y16, y17⟩ := Bg.of hr0; rw [hvn] at y14; rw [hfn] at y15; rw [hrn] at y17; have HR0 := hide hr0; have HB0 := hide hb0; clear hr0 hs0 hb0)
            | (refine bx_ldK 31 (.tmp 1) (by exact rfl) b (by exact rfl) (by exact rfl) (gc s x) _ (unhide HR0) Tryz.underlying31 (Tryz.sizeP s x) ?_)
            | go_guarded
            | (go_at_call 153; refine ((unhide H1) _ (unhide HB0)).mono ?_; rintro e w1 ⟨rfl, hb1⟩; have HB1 := hide ((unhide HB0).trans hb1); clear hb1)
            | (go_at_call 154; refine ((unhide H2) _ (unhide HB0)).mono ?_; rintro e w1 ⟨rfl, hb1⟩; have HB1 := hide ((unhide HB0).trans hb1); clear hb1))
          go_ret
          first
            | exact ⟨rfl, unhide HB1⟩
            | exact ⟨rfl, unhide HB0⟩
        · rw [if_neg k1]
          have e1 : (s.role == 1) = false := by simp [k1]
          clear k1 k2
          go_enter Tryz.func106, Tryz.ntmps106
          go_wp2_with (first
            | go_skip
            | (refine bx_boxK 31 (.tmp 0) (by exact rfl) (by exact rfl) (gc s x) (by exact rfl) ?_; intro b w0 hr0 hs0 hb0; obtain ⟨y0, y1, y2, y3, y4, y5, y6, y7, y8, y9, y10, y11, y12, y13, y14, y15, y16, y17⟩ := Bg.of hr0; rw [hvn] at y14; rw [hfn] at y15; rw [hrn] at y17; have HR0 := hide hr0; have HB0 := hide hb0; clear hr0 hs0 hb0)
            | (refine bx_ldK 31 (.tmp 1) (by exact rfl) b (by exact rfl) (by exact rfl) (gc s x) _ (unhide HR0) Tryz.underlying31 (Tryz.sizeP s x) ?_)
            | go_guarded
            | (go_at_call 153; refine ((unhide H1) _ (unhide HB0)).mono ?_; rintro e w1 ⟨rfl, hb1⟩; have HB1 := hide ((unhide HB0).trans hb1); clear hb1)
            | (go_at_call 154; refine ((unhide H2) _ (unhide HB0)).mono ?_; rintro e w1 ⟨rfl, hb1⟩; have HB1 := hide ((unhide HB0).trans hb1); clear hb1))
          go_ret
          first
            | exact ⟨rfl, unhide HB1⟩
            | exact ⟨rfl, unhide HB0⟩
end Go.Proofs.YthekbhliokcpcaaGreat
