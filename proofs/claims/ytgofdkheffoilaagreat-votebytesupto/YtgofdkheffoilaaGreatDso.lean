/- Messages, as the document holds them against each other. -/
import Derived.Test.YtgofdkheffoilaaGreatMrg
namespace Go.Proofs.YtgofdkheffoilaaGreat
open Go.RowKit Go.Maps
theorem bel_of_drew {w w' : World} {q : Nat} (h : w' = w.drewN q) : Bel w w' := by rw [h]; exact (Bel.refl w).drewN q
theorem str_eq (a b : ByteArray) : (a.toList == b.toList) = decide (a = b) := by
  by_cases h : a = b
  · subst h; simp
  · rw [decide_eq_false h]
    refine beq_eq_false_iff_ne.2 (fun e => h ?_)
    apply ba_ext
    rw [← ByteArray.toList_eq, ← ByteArray.toList_eq, e]
def hdS (m k : GM) : Bool := (m.index == k.index) && (m.lterm == k.lterm) && (m.commit == k.commit) && (m.round == k.round) && (m.ok == k.ok)
set_option maxRecDepth 100000 in
set_option maxHeartbeats 8000000 in
theorem sameMsg_any {W : World} {m k : GM} {x y : GX} (se si : Bool) (h0 : (m.kind == k.kind) = true) (h1 : (m.frm == k.frm) = true) (h2 : (m.to == k.to) = true) (h3 : (m.term == k.term) = true) (hE : ∀ W', Bel W W' → Calls Tryz.prog 35 #[.slice x.ea m.ents.length x.ec, .slice y.ea k.ents.length y.ec] W' fun e w' => e = .returned (.bool se) ∧ ∃ m, w' = W'.drewN m) (hI : ∀ W', Bel W W' → Calls Tryz.prog 36 #[.slice x.ma m.mem.length x.mc, .slice y.ma k.mem.length y.mc] W' fun e w' => e = .returned (.bool si) ∧ ∃ m, w' = W'.drewN m) :
    Calls Tryz.prog 9 #[.agg (mg m x), .agg (mg k y)] W fun e w' => e = .returned (.bool (hdS m k && se && si && decide (m.snap = k.snap))) ∧ Bel W w' := by
  have HE := hide hE
  have HI := hide hI
  clear hE hI
  unfold hdS
  cases h4 : (m.index == k.index)
  · clear HE HI
    go_enter Tryz.func9, Tryz.ntmps9
    go_wp2_with (first
      | go_skip
      | go_guarded
      | (refine bx_box rfl 27 (.tmp 0) rfl (mg m x) rfl ?_; intro b w0 hr0 hs0 hb0; have HB := hide (And.intro hr0 hb0); clear hr0 hs0 hb0)
      | (refine bx_box rfl 27 (.tmp 1) rfl (mg k y) rfl ?_; intro b2 w2 hr2 hs2 hb2; obtain ⟨d0, d1, d2, d3, d4, _, _, _, _, _, _, _⟩ := Mb2.of hr2; obtain ⟨c0, c1, c2, c3, c4, _, _, _, _, _, _, _⟩ := Mb2.of (hb2.row (unhide HB).1); replace HB := hide (And.intro (hb2.row (unhide HB).1) (And.intro hr2 ((unhide HB).2.trans hb2))); clear hr2 hs2 hb2)
    )
    go_ret
    exact ⟨by simp, (unhide HB).2.2⟩
  · cases h5 : (m.lterm == k.lterm)
    · clear HE HI
      go_enter Tryz.func9, Tryz.ntmps9
      go_wp2_with (first
        | go_skip
        | go_guarded
        | (refine bx_box rfl 27 (.tmp 0) rfl (mg m x) rfl ?_; intro b w0 hr0 hs0 hb0; have HB := hide (And.intro hr0 hb0); clear hr0 hs0 hb0)
        | (refine bx_box rfl 27 (.tmp 1) rfl (mg k y) rfl ?_; intro b2 w2 hr2 hs2 hb2; obtain ⟨d0, d1, d2, d3, d4, d5, _, _, _, _, _, _⟩ := Mb2.of hr2; obtain ⟨c0, c1, c2, c3, c4, c5, _, _, _, _, _, _⟩ := Mb2.of (hb2.row (unhide HB).1); replace HB := hide (And.intro (hb2.row (unhide HB).1) (And.intro hr2 ((unhide HB).2.trans hb2))); clear hr2 hs2 hb2)
      )
      go_ret
      exact ⟨by simp, (unhide HB).2.2⟩
    · cases h6 : (m.commit == k.commit)
      · clear HE HI
        go_enter Tryz.func9, Tryz.ntmps9
        go_wp2_with (first
          | go_skip
          | go_guarded
          | (refine bx_box rfl 27 (.tmp 0) rfl (mg m x) rfl ?_; intro b w0 hr0 hs0 hb0; have HB := hide (And.intro hr0 hb0); clear hr0 hs0 hb0)
          | (refine bx_box rfl 27 (.tmp 1) rfl (mg k y) rfl ?_; intro b2 w2 hr2 hs2 hb2; obtain ⟨d0, d1, d2, d3, d4, d5, d6, _, _, _, _, _⟩ := Mb2.of hr2; obtain ⟨c0, c1, c2, c3, c4, c5, c6, _, _, _, _, _⟩ := Mb2.of (hb2.row (unhide HB).1); replace HB := hide (And.intro (hb2.row (unhide HB).1) (And.intro hr2 ((unhide HB).2.trans hb2))); clear hr2 hs2 hb2)
        )
        go_ret
        exact ⟨by simp, (unhide HB).2.2⟩
      · cases h7 : (m.round == k.round)
        · clear HE HI
          go_enter Tryz.func9, Tryz.ntmps9
          go_wp2_with (first
            | go_skip
            | go_guarded
            | (refine bx_box rfl 27 (.tmp 0) rfl (mg m x) rfl ?_; intro b w0 hr0 hs0 hb0; have HB := hide (And.intro hr0 hb0); clear hr0 hs0 hb0)
            | (refine bx_box rfl 27 (.tmp 1) rfl (mg k y) rfl ?_; intro b2 w2 hr2 hs2 hb2; obtain ⟨d0, d1, d2, d3, d4, d5, d6, d7, _, _, _, _⟩ := Mb2.of hr2; obtain ⟨c0, c1, c2, c3, c4, c5, c6, c7, _, _, _, _⟩ := Mb2.of (hb2.row (unhide HB).1); replace HB := hide (And.intro (hb2.row (unhide HB).1) (And.intro hr2 ((unhide HB).2.trans hb2))); clear hr2 hs2 hb2)
          )
          go_ret
          exact ⟨by simp, (unhide HB).2.2⟩
        · cases h8 : (m.ok == k.ok)
          · clear HE HI
            go_enter Tryz.func9, Tryz.ntmps9
            go_wp2_with (first
              | go_skip
              | go_guarded
              | (refine bx_box rfl 27 (.tmp 0) rfl (mg m x) rfl ?_; intro b w0 hr0 hs0 hb0; have HB := hide (And.intro hr0 hb0); clear hr0 hs0 hb0)
              | (refine bx_box rfl 27 (.tmp 1) rfl (mg k y) rfl ?_; intro b2 w2 hr2 hs2 hb2; obtain ⟨d0, d1, d2, d3, d4, d5, d6, d7, d8, _, _, _⟩ := Mb2.of hr2; obtain ⟨c0, c1, c2, c3, c4, c5, c6, c7, c8, _, _, _⟩ := Mb2.of (hb2.row (unhide HB).1); replace HB := hide (And.intro (hb2.row (unhide HB).1) (And.intro hr2 ((unhide HB).2.trans hb2))); clear hr2 hs2 hb2)
            )
            go_ret
            exact ⟨by simp, (unhide HB).2.2⟩
          · cases se
            · clear HI
              go_enter Tryz.func9, Tryz.ntmps9
              go_wp2_with (first
                | go_skip
                | go_guarded
                | (refine bx_box rfl 27 (.tmp 0) rfl (mg m x) rfl ?_; intro b w0 hr0 hs0 hb0; have HB := hide (And.intro hr0 hb0); clear hr0 hs0 hb0)
                | (refine bx_box rfl 27 (.tmp 1) rfl (mg k y) rfl ?_; intro b2 w2 hr2 hs2 hb2; obtain ⟨d0, d1, d2, d3, d4, d5, d6, d7, d8, d9, _, _⟩ := Mb2.of hr2; obtain ⟨c0, c1, c2, c3, c4, c5, c6, c7, c8, c9, _, _⟩ := Mb2.of (hb2.row (unhide HB).1); replace HB := hide (And.intro (hb2.row (unhide HB).1) (And.intro hr2 ((unhide HB).2.trans hb2))); clear hr2 hs2 hb2)
                | (go_at_call 35; refine ((unhide HE) _ (unhide HB).2.2).mono ?_; rintro e w3 ⟨rfl, q3, hq3⟩; have hb3 := bel_of_drew hq3; have HB3 := hide ((unhide HB).2.2.trans hb3); have HR3 : Hid (Mb2 w3 b m x ∧ Mb2 w3 b2 k y) := hide (And.intro (Mb2.of (hb3.row (unhide HB).1)) (Mb2.of (hb3.row (unhide HB).2.1))); clear hb3; clear c0 c1 c2 c3 c4 c5 c6 c7 c8 c9 d0 d1 d2 d3 d4 d5 d6 d7 d8 d9; have c10 := (unhide HR3).1.c10; have d10 := (unhide HR3).2.c10; have c11 := (unhide HR3).1.c11; have d11 := (unhide HR3).2.c11; clear hq3)
                | (go_at_call 36; refine ((unhide HI) _ (unhide HB3)).mono ?_; rintro e w4 ⟨rfl, q4, hq4⟩; have hb4 := bel_of_drew hq4; have HB4 := hide ((unhide HB3).trans hb4); have z11 := hb4.cell c11; have y11 := hb4.cell d11; clear hb4; clear hq4 c10 d10 c11 d11)
              )
              go_ret
              exact ⟨by simp, unhide HB3⟩
            · cases si
              · go_enter Tryz.func9, Tryz.ntmps9
                go_wp2_with (first
                  | go_skip
                  | go_guarded
                  | (refine bx_box rfl 27 (.tmp 0) rfl (mg m x) rfl ?_; intro b w0 hr0 hs0 hb0; have HB := hide (And.intro hr0 hb0); clear hr0 hs0 hb0)
                  | (refine bx_box rfl 27 (.tmp 1) rfl (mg k y) rfl ?_; intro b2 w2 hr2 hs2 hb2; obtain ⟨d0, d1, d2, d3, d4, d5, d6, d7, d8, d9, _, _⟩ := Mb2.of hr2; obtain ⟨c0, c1, c2, c3, c4, c5, c6, c7, c8, c9, _, _⟩ := Mb2.of (hb2.row (unhide HB).1); replace HB := hide (And.intro (hb2.row (unhide HB).1) (And.intro hr2 ((unhide HB).2.trans hb2))); clear hr2 hs2 hb2)
                  | (go_at_call 35; refine ((unhide HE) _ (unhide HB).2.2).mono ?_; rintro e w3 ⟨rfl, q3, hq3⟩; have hb3 := bel_of_drew hq3; have HB3 := hide ((unhide HB).2.2.trans hb3); have HR3 : Hid (Mb2 w3 b m x ∧ Mb2 w3 b2 k y) := hide (And.intro (Mb2.of (hb3.row (unhide HB).1)) (Mb2.of (hb3.row (unhide HB).2.1))); clear hb3; clear c0 c1 c2 c3 c4 c5 c6 c7 c8 c9 d0 d1 d2 d3 d4 d5 d6 d7 d8 d9; have c10 := (unhide HR3).1.c10; have d10 := (unhide HR3).2.c10; have c11 := (unhide HR3).1.c11; have d11 := (unhide HR3).2.c11; clear hq3)
                  | (go_at_call 36; refine ((unhide HI) _ (unhide HB3)).mono ?_; rintro e w4 ⟨rfl, q4, hq4⟩; have hb4 := bel_of_drew hq4; have HB4 := hide ((unhide HB3).trans hb4); have z11 := hb4.cell c11; have y11 := hb4.cell d11; clear hb4; clear hq4 c10 d10 c11 d11)
                )
                go_ret
                exact ⟨by simp, unhide HB4⟩
              · go_enter Tryz.func9, Tryz.ntmps9
                go_wp2_with (first
                  | go_skip
                  | go_guarded
                  | (refine bx_box rfl 27 (.tmp 0) rfl (mg m x) rfl ?_; intro b w0 hr0 hs0 hb0; have HB := hide (And.intro hr0 hb0); clear hr0 hs0 hb0)
                  | (refine bx_box rfl 27 (.tmp 1) rfl (mg k y) rfl ?_; intro b2 w2 hr2 hs2 hb2; obtain ⟨d0, d1, d2, d3, d4, d5, d6, d7, d8, d9, _, _⟩ := Mb2.of hr2; obtain ⟨c0, c1, c2, c3, c4, c5, c6, c7, c8, c9, _, _⟩ := Mb2.of (hb2.row (unhide HB).1); replace HB := hide (And.intro (hb2.row (unhide HB).1) (And.intro hr2 ((unhide HB).2.trans hb2))); clear hr2 hs2 hb2)
                  | (go_at_call 35; refine ((unhide HE) _ (unhide HB).2.2).mono ?_; rintro e w3 ⟨rfl, q3, hq3⟩; have hb3 := bel_of_drew hq3; have HB3 := hide ((unhide HB).2.2.trans hb3); have HR3 : Hid (Mb2 w3 b m x ∧ Mb2 w3 b2 k y) := hide (And.intro (Mb2.of (hb3.row (unhide HB).1)) (Mb2.of (hb3.row (unhide HB).2.1))); clear hb3; clear c0 c1 c2 c3 c4 c5 c6 c7 c8 c9 d0 d1 d2 d3 d4 d5 d6 d7 d8 d9; have c10 := (unhide HR3).1.c10; have d10 := (unhide HR3).2.c10; have c11 := (unhide HR3).1.c11; have d11 := (unhide HR3).2.c11; clear hq3)
                  | (go_at_call 36; refine ((unhide HI) _ (unhide HB3)).mono ?_; rintro e w4 ⟨rfl, q4, hq4⟩; have hb4 := bel_of_drew hq4; have HB4 := hide ((unhide HB3).trans hb4); have z11 := hb4.cell c11; have y11 := hb4.cell d11; clear hb4; clear hq4 c10 d10 c11 d11)
                )
                go_ret
                exact ⟨by simp [str_eq], unhide HB4⟩
end Go.Proofs.YtgofdkheffoilaaGreat
