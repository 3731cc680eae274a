/- New of members that do not rise. -/
import Derived.Test.YthekbhliokcpcaaGreatNew
namespace Go.Proofs.YthekbhliokcpcaaGreat
open Go.RowKit Go.Maps Go.Sort
set_option maxRecDepth 100000 in
set_option maxHeartbeats 1000000 in
theorem mems_no {W : World} {s : PP} {x : Px} (h : Sl E3 W x.aB ([2, 1] : List Int)) : Calls Tryz.prog 105 #[.agg (pc 2 s x)] W fun e w' => e = .returned (.bool false) ∧ Bel W w' := by
  have H1 : Hid (∀ W', Bel W W' → Calls Tryz.prog 152 #[.slice x.aB 2 x.cB] W' fun e w' => e = .returned (.bool false) ∧ Bel W' w') := hide (fun W' hb => by
    have := areMem_any (h.bel hb) x.cB (by decide)
    exact this.mono (fun e w' ⟨he, hw⟩ => ⟨he.trans rfl, by rw [hw]; exact Bel.refl _⟩))
  clear h
  go_enter Tryz.func105, Tryz.ntmps105
  go_wp2_with (first
    | (refine bx_box rfl 31 _ rfl (pc 2 s x) rfl ?_; intro b w0 hr0 hs0 hb0; have HR0 := hide hr0; have HB0 := hide hb0; clear hr0 hs0 hb0))
  have y8 : ∀ p : BelBy w0, p.W.cell? ⟨b, 8, none⟩ = some (.slice x.aB 2 x.cB) := fun p => (Bx.of (p.h.row (unhide HR0))).c8
  have hne := BelBy.some w0
  refine wp_region_bel Tryz.follows (by kernel_rfl) ?_
  repeat (go_big_quiet_step (first
      | (go_at_call 152; refine calls_by ((unhide H1) _ ((unhide HB0).trans (BelBy.h _))))))
  refine wpQuiet_nil ?_
  rintro w' ⟨p, rfl⟩
  have HP := hide p.h
  generalize p.W = w1 at *
  clear y8
  go_wp2_with fail
  go_ret
  exact ⟨rfl, (unhide HB0).trans (unhide HP)⟩
set_option maxRecDepth 100000 in
theorem may_no {W : World} {s : PP} {x : Px} (h : Sl E3 W x.aB ([2, 1] : List Int)) (hl : Sl E69 W x.aL s.log) (hok : Ok 2 0 0 s) : Calls Tryz.prog 42 #[.agg (pc 2 s x)] W fun e w' => e = .returned (.int .i64 2) ∧ Bel W w' := by
  have hgl := hok.glen
  have H1 : Hid (∀ W', Calls Tryz.prog 103 #[.agg (pc 2 s x)] W' fun e w' => e = .returned (.bool true) ∧ Bel W' w') := hide (fun W' => numbers_ok x hok (by decide) (by decide))
  have H2 : Hid (∀ W', Bel W W' → Calls Tryz.prog 104 #[.agg (pc 2 s x)] W' fun e w' => e = .returned (.bool true) ∧ Bel W' w') := hide (fun W' hb => log_ok (hl.bel hb) hok (by omega))
  have H3 : Hid (∀ W', Bel W W' → Calls Tryz.prog 105 #[.agg (pc 2 s x)] W' fun e w' => e = .returned (.bool false) ∧ Bel W' w') := hide (fun W' hb => mems_no (h.bel hb))
  clear h hl hok hgl
  go_enter Tryz.func42, Tryz.ntmps42
  go_wp2_with (first
    | go_skip
    | (refine bx_box rfl 31 _ rfl (pc 2 s x) rfl ?_; intro b w0 hr0 hs0 hb0; have HR0 := hide hr0; have HB0 := hide hb0; clear hr0 hs0 hb0)
    | (refine bx_ldG rfl 31 _ rfl b rfl (pc 2 s x) _ (unhide HR0) Tryz.underlying31 (Tryz.size32 2 s x) ?_)
    | (go_at_call 103; refine ((unhide H1) _).mono ?_; rintro e w1 ⟨rfl, hb1⟩; replace HR0 := hide (hb1.row (unhide HR0)); replace HB0 := hide ((unhide HB0).trans hb1); clear hb1)
    | (go_at_call 104; refine ((unhide H2) _ (unhide HB0)).mono ?_; rintro e w2 ⟨rfl, hb1⟩; replace HR0 := hide (hb1.row (unhide HR0)); replace HB0 := hide ((unhide HB0).trans hb1); clear hb1)
    | (go_at_call 105; refine ((unhide H3) _ (unhide HB0)).mono ?_; rintro e w3 ⟨rfl, hb1⟩; replace HR0 := hide (hb1.row (unhide HR0)); replace HB0 := hide ((unhide HB0).trans hb1); clear hb1))
  go_ret
  exact ⟨rfl, unhide HB0⟩
set_option maxRecDepth 100000 in
set_option maxHeartbeats 4000000 in
theorem new_no {W : World} {a : Option Addr} {cap : Nat} (h : Sl E3 W a ([2, 1] : List Int)) : Calls Tryz.prog 17 #[.int .i64 1, .int .i64 10, .slice a 2 cap] W fun e w' => e = .returned (.tuple #[.agg (pc 0 ⟨0, 0, 0, 0, 0, 0, 0, [], [], [], 0⟩ ⟨none, 0, none, 0, none, 0, none, 0, none, 0, none, 0⟩), .int .i64 2]) ∧ Bel W w' := by
  have hz69 : ∀ W', Sl E69 W' none ([] : List PE) := fun W' => (Sl.of (El.O.nil (E := E69) 0 W')).1
  have hz3 : ∀ W', Sl E3 W' none ([] : List Int) := fun W' => (Sl.of (El.O.nil (E := E3) 0 W')).1
  have hz65 : ∀ W', Sl E65 W' none ([] : List (Int × Int × Int)) := fun W' => (Sl.of (El.O.nil (E := E65) 0 W')).1
  have H2 : Hid (∀ W', Bel W W' → Calls Tryz.prog 41 #[.agg (pc 2 (pnew 1 10) (xnew a cap))] W' fun e w' => ∃ x', e = .returned (.agg (pc 2 (pnew 1 10) x')) ∧ (E3.O W'.heap.size w' (.slice x'.aB 2 x'.cB) ([2, 1] : List Int) ∧ E69.O W'.heap.size w' (.slice x'.aL 0 x'.cL) ([] : List PE)) ∧ Bel W' w') := hide (fun W' hb => (clone_gen (x := xnew a cap) (s := pnew 1 10) (M := [2, 1]) (n := 2) rfl (h.bel hb) (h.bel hb) (hz69 W') (hz3 W') (hz65 W') (by decide) (Nat.zero_le _) (Nat.zero_le _) (Nat.zero_le _)).mono (fun _ _ ⟨x', he, hf, hb'⟩ => ⟨x', he, ⟨hf.b, hf.l⟩, hb'⟩))
  have H1 : Hid (∀ W' x', Sl E3 W' x'.aB ([2, 1] : List Int) ∧ Sl E69 W' x'.aL ([] : List PE) → Calls Tryz.prog 42 #[.agg (pc 2 (pnew 1 10) x')] W' fun e w' => e = .returned (.int .i64 2) ∧ Bel W' w') := hide (fun W' x' hp => may_no hp.1 hp.2 (pnew_ok (by decide) (by decide)))
  clear h hz69 hz3 hz65
  go_enter Tryz.func17, Tryz.ntmps17
  go_wp2_with (first
    | go_skip
    | go_guarded
    | (refine bx_new rfl 31 rfl _ Tryz.zero32 ?_; intro b w2 hr2 hs2 hb2; replace HG := hide (And.intro ((unhide HG).1.bel hb2) ((unhide HG).2.bel hb2)); have HA := hide (And.intro hr2 (And.intro (hb2.row (unhide HR1).1) (And.intro ((unhide HR1).2.1.trans hb2) (And.intro (show W.heap.size ≤ b by have := (unhide HR1).2.1.size; omega) (And.intro (show W.heap.size ≤ b2 by have := (unhide HR1).2.2; omega) (show b2 ≠ b from fun e => by have := lt_of_some (unhide HR1).1; omega)))))); clear hr2 hs2 hb2 HR1)
    | (refine bx_new rfl 31 rfl _ Tryz.zero32 ?_; intro b2 w1 hr1 hs1 hb1; have HR1 := hide (And.intro hr1 (And.intro hb1 hs1)); clear hr1 hs1 hb1)
    | (go_at_call 41; refine ((unhide H2) _ (unhide HR1).2.1).mono ?_; rintro e w3 ⟨x3, rfl, hp3, hb3⟩; have HG := hide hp3; replace HR1 := hide (And.intro (hb3.row (unhide HR1).1) (And.intro ((unhide HR1).2.1.trans hb3) (unhide HR1).2.2)); clear hp3 hb3)
    | (refine bx_st rfl 31 (.tmp 8) _ rfl b (pc 2 (pnew 1 10) x3) _ rfl rfl (unhide HA).1 (Tryz.size32 _ _ _) rfl (pc_one _ _ _) ?_; intro w4 hr4 hc4; have HZ := hide (And.intro hr4 (And.intro (bel_off (unhide HA).2.2.1 hc4 (unhide HA).2.2.2.1) (And.intro (hc4.row (unhide HA).2.1 (unhide HA).2.2.2.2.2) (unhide HA).2.2.2.2.1))); have HC4 := hide (And.intro hc4 (unhide HA).1); clear hr4 hc4 HA)
    | (refine bx_ldH 31 (.tmp 8) (by exact rfl) b (by exact rfl) (by exact rfl) _ _ (unhide HZ).1 Tryz.underlying31 (Tryz.size32 _ _ _) ?_)
    | (go_at_call 42; refine ((unhide H1) _ _ ⟨(Sl.of ((unhide HG).1.box (unhide HC4).2 (by decide) (unhide HC4).1)).1, (Sl.of ((unhide HG).2.box (unhide HC4).2 (by decide) (unhide HC4).1)).1⟩).mono ?_; rintro e w5 ⟨rfl, hb5⟩; replace HZ := hide (And.intro (hb5.row (unhide HZ).1) (And.intro ((unhide HZ).2.1.trans hb5) (And.intro (hb5.row (unhide HZ).2.2.1) (unhide HZ).2.2.2))); clear hb5)
    | (refine bx_st rfl 31 (.tmp 6) _ rfl b2 (pc 0 ⟨0, 0, 0, 0, 0, 0, 0, [], [], [], 0⟩ ⟨none, 0, none, 0, none, 0, none, 0, none, 0, none, 0⟩) _ rfl rfl (unhide HZ).2.2.1 (Tryz.size32 _ _ _) rfl (pc_one _ _ _) ?_; intro w9 hr9 hc9; have HR9 := hide (And.intro hr9 (bel_off (unhide HZ).2.1 hc9 (unhide HZ).2.2.2)); clear hr9 hc9))
  exact bodyPost_ret (res2 (p := 6) (q := 7) rfl Tryz.underlying31 (Tryz.size32 _ _ _) (unhide HR9).1 _ _ rfl rfl) rfl ⟨rfl, (unhide HR9).2⟩
end Go.Proofs.YthekbhliokcpcaaGreat
