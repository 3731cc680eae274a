/- Tick of any member. -/
import Derived.Test.YthekbhliokcpcaaGreatT14
namespace Go.Proofs.YthekbhliokcpcaaGreat
open Go.RowKit Go.Maps Go.Sort
def GP.later (s : GP) : GP := { s with idle := min (s.idle + 1) 1073741824 }
abbrev GP.calm (s : GP) : Prop := s.later.idle < s.wait ∨ ¬ s.id ∈ s.M ∨ 4611686018427387904 ≤ s.term
def GP.tick (s : GP) (draw : Int) : GP × List (GM × GX) := if s.role = 2 then (s, []) else if s.calm then (s.later, []) else ((s.later.cand draw).winIf, (s.later.cand draw).asks)
theorem TzG.set {W w w' : World} {b b2 : Nat} {s s' : GP} {x x' : Px} (h : TzG W w b b2 s x) (h1 : w'.heap[b]? = some (.cells (gc s' x') 31)) (hc : Ch (fun i => i = b) w w') (hp : Pg W.heap.size w s x → Pg W.heap.size w s' x') : TzG W w' b b2 s' x' := h.put (hp h.pg) h1 hc
theorem fol_none {s : GP} (h : mayG s = true) (hr : s.role ≠ 2) : s.fol = [] ∧ s.reads = [] := by
 have h4 := (mayG_num h).2.2.2
 unfold rolB at h4
 rw [if_neg hr] at h4
 by_cases hq : 0 < s.fol.length ∨ 0 < s.reads.length
 ·rw [if_pos hq] at h4; cases h4
 ·exact ⟨List.eq_nil_of_length_eq_zero (by omega), List.eq_nil_of_length_eq_zero (by omega)⟩
set_option maxRecDepth 100000 in
set_option maxHeartbeats 4000000 in
theorem tick_g {W : World} {s : GP} {x : Px} (h : Gp W s x) (hz : Gz s x) (hm : mayG s = true) (hll : s.log.length ≤ 99999) (draw : Int) (hd : 0 ≤ draw) : Calls Tryz.prog 71 #[.agg (gc s x), .int .i64 draw] W fun e w' => ∃ x' aA cA, e = .returned (.tuple #[.agg (gc (s.tick draw).1 x'), .slice aA (s.tick draw).2.length cA, .int .i64 0]) ∧ Pg W.heap.size w' (s.tick draw).1 x' ∧ EMg.O W.heap.size w' (.slice aA (s.tick draw).2.length cA) (s.tick draw).2 ∧ Bel W w' := by
 have H1 : Hid (∀ W', Bel W W' → Calls Tryz.prog 42 #[.agg (gc s x)] W' fun e w' => e = .returned (.int .i64 0) ∧ Bel W' w') := jd (fun W' hb => by have := may_g (h.bel hb) hz; rwa [hm, if_pos rfl] at this)
 have H2 : Hid (∀ W', Bel W W' → Calls Tryz.prog 41 #[.agg (gc s x)] W' fun e w' => ∃ x', e = .returned (.agg (gc s x')) ∧ Pg W.heap.size w' s x' ∧ Bel W' w') := jd (fun W' hb => (clone_g (h.bel hb) hz.m hz.b (by have := hz.l; omega) hz.lm hz.v (by have := hz.f; omega) (by have := hz.r; omega) hz.ra).mono (fun _ _ ⟨x', he, hp, hb'⟩ => ⟨x', he, hp.mono hb.size, hb'⟩))
 obtain ⟨q1, q2, q3, q4⟩ := mayG_num hm
 have m64 := mem64 q2 q3
 have hris := (aids_ris _ 0 (mem_ids q2 q3).2).2
 have hb62 := numB_base q1
 have hidl : 0 ≤ s.idle ∧ s.idle ≤ 1073741824 ∧ s.wait ≤ 1073741824 ∧ s.term ≤ 4611686018427387904 := by
  unfold numB at q1
  simp only [Bool.and_eq_true, decide_eq_true_eq] at q1
  exact ⟨q1.2.2.2.2.2.2.2.2.2.1, q1.2.2.2.2.2.2.2.2.2.2, q1.2.2.2.2.2.2.2.2.1, q1.2.2.2.2.1⟩
 have hd' : ¬ (draw < 0) := by omega
 by_cases hr : s.role = 2
 ·have e1 : (s.role == 2) = true := by simp [hr]
  have HE : Hid (s.tick draw = (s, [])) := jd (by unfold GP.tick; rw [if_pos hr])
  clear h hz hm hll hd q1 q2 q3 q4 m64 hris hb62 hidl hr
  go_enter Tryz.func71, Tryz.ntmps71
  go_wp2_with (first
   | go_skip
   | (refine bx_boxK 31 (.tmp 0) (by exact rfl) (by exact rfl) (gc s x) (by exact rfl) ?_; intro b w0 hr0 hs0 hb0; have HR0 := jd hr0; have HB0 := jd (aI hb0 hs0); clear hr0 hs0 hb0)
   | (refine bx_new rfl 31 rfl _ Tryz.zeroP ?_; intro b2 w1 hr1 hs1 hb1; have HY : Hid (TyG W w1 b b2 s x) := jd ⟨hb1.row (ju HR0), (ju HB0).1.trans hb1, ⟨_, _, hr1⟩, by have := (ju HB0).2; omega, by have := (ju HB0).1.size; omega, fun e => by have := lt_of_some (ju HR0); omega⟩; clear hr1 hs1 hb1 HR0 HB0)
   | (refine bx_ldK 31 (.tmp 2) (by exact rfl) b (by exact rfl) (by exact rfl) (gc s x) _ (ju HY).row u31 (zP _ _) ?_)
   | (go_at_call 42; refine ((ju H1) _ (ju HY).bel).mono ?_; rintro e w2 ⟨rfl, hb2⟩; replace HY := jd ((ju HY).next hb2); clear hb2)
   | (go_at_call 41; refine ((ju H2) _ (ju HY).bel).mono ?_; rintro e w3 ⟨x1, rfl, hf3, hb3⟩; have HF3 := jd hf3; replace HY := jd ((ju HY).next hb3); clear hb3 hf3)
   | (refine bx_st rfl 31 (.tmp 2) _ rfl b (gc s x1) _ rfl rfl (ju HY).row (zP _ _) rfl (gc_one _ _) ?_; intro w4 hr4 hc4; have y4 := (Bg.of hr4).c4; have y12 := (Bg.of hr4).c12; have HZ := jd ((ju HY).put (ju HF3) hr4 hc4); clear hr4 hc4 HY HF3)
   | (refine bx_ldK 31 (.tmp 2) (by exact rfl) b (by exact rfl) (by exact rfl) _ _ (ju HZ).row u31 (zP _ _) ?_)
   | go_guarded
   | (obtain ⟨s2, x2, h2⟩ := (ju HZ).row2; refine bx_st rfl 31 (.tmp 4) _ rfl b2 _ _ rfl rfl h2 (zP _ _) rfl (gc_one _ _) ?_; intro w9 hr9 hc9; have HR9 := jd (aI hr9 ((ju HZ).out h2 hc9)); clear hr9 hc9 h2))
  rw [ju HE]
  exact bodyPost_ret (res3 (p := 4) (q := 5) (r := 6) rfl u31 (zP _ _) (ju HR9).1 _ _ _ rfl rfl rfl) rfl ⟨_, _, _, rfl, (ju HR9).2.1, El.O.nil _ _, (ju HR9).2.2⟩
 ·have e1 : (s.role == 2) = false := by simp [hr]
  have hfr := fol_none hm hr
  obtain ⟨i1, hi1⟩ : ∃ i1, i1 = s.later.idle := ⟨_, rfl⟩
  have hi1' : i1 = min (s.idle + 1) 1073741824 := hi1
  have hw1 : IntKind.i64.wrap (s.idle + 1) = s.idle + 1 := wrapI (by omega) (by omega)
  have hmin2 : min (s.idle + 1) 1073741824 = i1 := hi1'.symm
  have HS1 : Hid (s.later = { s with idle := i1 }) := jd (by unfold GP.later; rw [hi1'])
  have HSe : Hid (∀ w1 x1, Sl E3 w1 x1.aM s.M → Calls Tryz.prog 128 #[.agg (gc { s with idle := i1 } x1)] w1 fun e w' => e = .returned (.bool (decide (s.id ∈ s.M))) ∧ Bel w1 w') := jd (fun w1 x1 hs => seated_g (s := { s with idle := i1 }) hs (by show s.M.length ≤ _; omega))
  by_cases hi : i1 < s.wait
  ·have HE : Hid (s.tick draw = ({ s with idle := i1 }, [])) := jd (by unfold GP.tick; rw [if_neg hr, if_pos (show s.calm from Or.inl (by rw [← hi1]; exact hi)), ju HS1])
   clear h hz hm hll hd q1 q2 q3 q4 m64 hris hb62 hidl hr hfr hi1 hi1'
   go_enter Tryz.func71, Tryz.ntmps71
   go_wp2_with (first
    | go_skip
    | (refine bx_boxK 31 (.tmp 0) (by exact rfl) (by exact rfl) (gc s x) (by exact rfl) ?_; intro b w0 hr0 hs0 hb0; have HR0 := jd hr0; have HB0 := jd (aI hb0 hs0); clear hr0 hs0 hb0)
    | (refine bx_new rfl 31 rfl _ Tryz.zeroP ?_; intro b2 w1 hr1 hs1 hb1; have HY : Hid (TyG W w1 b b2 s x) := jd ⟨hb1.row (ju HR0), (ju HB0).1.trans hb1, ⟨_, _, hr1⟩, by have := (ju HB0).2; omega, by have := (ju HB0).1.size; omega, fun e => by have := lt_of_some (ju HR0); omega⟩; clear hr1 hs1 hb1 HR0 HB0)
    | (refine bx_ldK 31 (.tmp 2) (by exact rfl) b (by exact rfl) (by exact rfl) (gc s x) _ (ju HY).row u31 (zP _ _) ?_)
    | (go_at_call 42; refine ((ju H1) _ (ju HY).bel).mono ?_; rintro e w2 ⟨rfl, hb2⟩; replace HY := jd ((ju HY).next hb2); clear hb2)
    | (go_at_call 41; refine ((ju H2) _ (ju HY).bel).mono ?_; rintro e w3 ⟨x1, rfl, hf3, hb3⟩; have HF3 := jd hf3; replace HY := jd ((ju HY).next hb3); clear hb3 hf3)
    | (refine bx_st rfl 31 (.tmp 2) _ rfl b (gc s x1) _ rfl rfl (ju HY).row (zP _ _) rfl (gc_one _ _) ?_; intro w4 hr4 hc4; have y4 := (Bg.of hr4).c4; have y12 := (Bg.of hr4).c12; have HZ := jd ((ju HY).put (ju HF3) hr4 hc4); clear hr4 hc4 HY HF3)
    | (refine gl_idle rfl _ _ rfl b _ rfl rfl (ju HZ).row ?_; intro w5 hr5 hc5; have z12 := (Bg.of hr5).c12; have z13 := (Bg.of hr5).c13; have z2 := (Bg.of hr5).c2; clear y4 y12; replace HZ := jd ((ju HZ).set hr5 hc5 (fun p => ⟨p.m, p.b, p.l, p.v, p.f, p.r, p.dv⟩)); clear hr5 hc5)
    | (refine bx_ldK 31 (.tmp 2) (by exact rfl) b (by exact rfl) (by exact rfl) _ _ (ju HZ).row u31 (zP _ _) ?_)
    | go_guarded
    | (obtain ⟨s2, x2, h2⟩ := (ju HZ).row2; refine bx_st rfl 31 (.tmp 4) _ rfl b2 _ _ rfl rfl h2 (zP _ _) rfl (gc_one _ _) ?_; intro w9 hr9 hc9; have HR9 := jd (aI hr9 ((ju HZ).out h2 hc9)); clear hr9 hc9 h2))
   rw [ju HE]
   exact bodyPost_ret (res3 (p := 4) (q := 5) (r := 6) rfl u31 (zP _ _) (ju HR9).1 _ _ _ rfl rfl rfl) rfl ⟨_, _, _, rfl, (ju HR9).2.1, El.O.nil _ _, (ju HR9).2.2⟩
  ·have hi' : decide (i1 < s.wait) = false := decide_eq_false hi
   by_cases hse : s.id ∈ s.M
   ·by_cases htm : 4611686018427387904 ≤ s.term
    ·have HE : Hid (s.tick draw = ({ s with idle := i1 }, [])) := jd (by unfold GP.tick; rw [if_neg hr, if_pos (show s.calm from Or.inr (Or.inr htm)), ju HS1])
     rw [decide_eq_true hse] at HSe
     have htm' : decide (4611686018427387904 ≤ s.term) = true := decide_eq_true htm
     clear h hz hm hll hd q1 q2 q3 q4 m64 hris hb62 hidl hr hfr hi1 hi1'
     go_enter Tryz.func71, Tryz.ntmps71
     go_wp2_with (first
      | go_skip
      | (refine bx_boxK 31 (.tmp 0) (by exact rfl) (by exact rfl) (gc s x) (by exact rfl) ?_; intro b w0 hr0 hs0 hb0; have HR0 := jd hr0; have HB0 := jd (aI hb0 hs0); clear hr0 hs0 hb0)
      | (refine bx_new rfl 31 rfl _ Tryz.zeroP ?_; intro b2 w1 hr1 hs1 hb1; have HY : Hid (TyG W w1 b b2 s x) := jd ⟨hb1.row (ju HR0), (ju HB0).1.trans hb1, ⟨_, _, hr1⟩, by have := (ju HB0).2; omega, by have := (ju HB0).1.size; omega, fun e => by have := lt_of_some (ju HR0); omega⟩; clear hr1 hs1 hb1 HR0 HB0)
      | (refine bx_ldK 31 (.tmp 2) (by exact rfl) b (by exact rfl) (by exact rfl) (gc s x) _ (ju HY).row u31 (zP _ _) ?_)
      | (go_at_call 42; refine ((ju H1) _ (ju HY).bel).mono ?_; rintro e w2 ⟨rfl, hb2⟩; replace HY := jd ((ju HY).next hb2); clear hb2)
      | (go_at_call 41; refine ((ju H2) _ (ju HY).bel).mono ?_; rintro e w3 ⟨x1, rfl, hf3, hb3⟩; have HF3 := jd hf3; replace HY := jd ((ju HY).next hb3); clear hb3 hf3)
      | (refine bx_st rfl 31 (.tmp 2) _ rfl b (gc s x1) _ rfl rfl (ju HY).row (zP _ _) rfl (gc_one _ _) ?_; intro w4 hr4 hc4; have y4 := (Bg.of hr4).c4; have y12 := (Bg.of hr4).c12; have HZ := jd ((ju HY).put (ju HF3) hr4 hc4); clear hr4 hc4 HY HF3)
      | (refine gl_idle rfl _ _ rfl b _ rfl rfl (ju HZ).row ?_; intro w5 hr5 hc5; have z12 := (Bg.of hr5).c12; have z13 := (Bg.of hr5).c13; have z2 := (Bg.of hr5).c2; clear y4 y12; replace HZ := jd ((ju HZ).set hr5 hc5 (fun p => ⟨p.m, p.b, p.l, p.v, p.f, p.r, p.dv⟩)); clear hr5 hc5)
      | (go_at_call 128; refine ((ju HSe) _ _ (ju HZ).pg.gp.m).mono ?_; rintro e w6 ⟨rfl, hb6⟩; replace HZ := jd ((ju HZ).next hb6); have z2 := (Bg.of (ju HZ).row).c2; clear hb6)
      | (refine bx_ldK 31 (.tmp 2) (by exact rfl) b (by exact rfl) (by exact rfl) _ _ (ju HZ).row u31 (zP _ _) ?_)
      | go_guarded
      | (obtain ⟨s2, x2, h2⟩ := (ju HZ).row2; refine bx_st rfl 31 (.tmp 4) _ rfl b2 _ _ rfl rfl h2 (zP _ _) rfl (gc_one _ _) ?_; intro w9 hr9 hc9; have HR9 := jd (aI hr9 ((ju HZ).out h2 hc9)); clear hr9 hc9 h2))
     rw [ju HE]
     exact bodyPost_ret (res3 (p := 4) (q := 5) (r := 6) rfl u31 (zP _ _) (ju HR9).1 _ _ _ rfl rfl rfl) rfl ⟨_, _, _, rfl, (ju HR9).2.1, El.O.nil _ _, (ju HR9).2.2⟩
    ·obtain ⟨sc, hsc⟩ : ∃ sc, sc = ({ s with idle := i1 } : GP).cand draw := ⟨_, rfl⟩
     have HE : Hid (s.tick draw = (sc.winIf, sc.asks)) := jd (by unfold GP.tick; rw [if_neg hr, if_neg (show ¬ s.calm from fun e => by rcases e with e | e | e; exact hi (by rw [hi1]; exact e); exact e hse; exact htm e), ju HS1, hsc])
     rw [decide_eq_true hse] at HSe
     have htm' : decide (4611686018427387904 ≤ s.term) = false := decide_eq_false htm
     have HC : Hid (∀ w1 x1, Pg W.heap.size w1 { s with idle := i1 } x1 → W.heap.size ≤ w1.heap.size → Calls Tryz.prog 129 #[.agg (gc { s with idle := i1 } x1), .int .i64 draw] w1 fun e w' => ∃ x' aA cA, e = .returned (.tuple #[.agg (gc sc.winIf x'), .slice aA sc.asks.length cA]) ∧ Pg W.heap.size w' sc.winIf x' ∧ EMg.O W.heap.size w' (.slice aA sc.asks.length cA) sc.asks ∧ Below W.heap.size w1 w' ∧ Kp w1 w') := jd (fun w1 x1 hp hb => by
      rw [hsc]
      exact (campaign_g (s := { s with idle := i1 }) hp hb m64.2 m64.1 hris hz.base.1 hb62 hll ⟨hz.term.1, hidl.2.2.2⟩ hfr.1 draw hd).mono (fun e w' ⟨x', aA, cA, h1, h2, h3, h4, h5⟩ => ⟨x', aA, cA, h1, h2, h3.mono hb, h4, h5⟩))
     clear h hz hm hll hd q1 q2 q3 q4 m64 hris hb62 hidl hr hfr hi1 hi1' hsc
     go_enter Tryz.func71, Tryz.ntmps71
     go_wp2_with (first
      | go_skip
      | (refine bx_boxK 31 (.tmp 0) (by exact rfl) (by exact rfl) (gc s x) (by exact rfl) ?_; intro b w0 hr0 hs0 hb0; have HR0 := jd hr0; have HB0 := jd (aI hb0 hs0); clear hr0 hs0 hb0)
      | (refine bx_new rfl 31 rfl _ Tryz.zeroP ?_; intro b2 w1 hr1 hs1 hb1; have HY : Hid (TyG W w1 b b2 s x) := jd ⟨hb1.row (ju HR0), (ju HB0).1.trans hb1, ⟨_, _, hr1⟩, by have := (ju HB0).2; omega, by have := (ju HB0).1.size; omega, fun e => by have := lt_of_some (ju HR0); omega⟩; clear hr1 hs1 hb1 HR0 HB0)
      | (refine bx_ldK 31 (.tmp 2) (by exact rfl) b (by exact rfl) (by exact rfl) (gc s x) _ (ju HY).row u31 (zP _ _) ?_)
      | (go_at_call 42; refine ((ju H1) _ (ju HY).bel).mono ?_; rintro e w2 ⟨rfl, hb2⟩; replace HY := jd ((ju HY).next hb2); clear hb2)
      | (go_at_call 41; refine ((ju H2) _ (ju HY).bel).mono ?_; rintro e w3 ⟨x1, rfl, hf3, hb3⟩; have HF3 := jd hf3; replace HY := jd ((ju HY).next hb3); clear hb3 hf3)
      | (refine bx_st rfl 31 (.tmp 2) _ rfl b (gc s x1) _ rfl rfl (ju HY).row (zP _ _) rfl (gc_one _ _) ?_; intro w4 hr4 hc4; have y4 := (Bg.of hr4).c4; have y12 := (Bg.of hr4).c12; have HZ := jd ((ju HY).put (ju HF3) hr4 hc4); clear hr4 hc4 HY HF3)
      | (refine gl_idle rfl _ _ rfl b _ rfl rfl (ju HZ).row ?_; intro w5 hr5 hc5; have z12 := (Bg.of hr5).c12; have z13 := (Bg.of hr5).c13; have z2 := (Bg.of hr5).c2; clear y4 y12; replace HZ := jd ((ju HZ).set hr5 hc5 (fun p => ⟨p.m, p.b, p.l, p.v, p.f, p.r, p.dv⟩)); clear hr5 hc5)
      | (go_at_call 128; refine ((ju HSe) _ _ (ju HZ).pg.gp.m).mono ?_; rintro e w6 ⟨rfl, hb6⟩; replace HZ := jd ((ju HZ).next hb6); have z2 := (Bg.of (ju HZ).row).c2; clear hb6)
      | (refine bx_ldK 31 (.tmp 2) (by exact rfl) b (by exact rfl) (by exact rfl) _ _ (ju HZ).row u31 (zP _ _) ?_)
      | (go_at_call 129; refine ((ju HC) _ _ (ju HZ).pg (ju HZ).bel.size).mono ?_; rintro e w7 ⟨x7, aA, cA, rfl, hp7, ho7, hb7, hk7⟩; obtain ⟨s2, x2, h2⟩ := (ju HZ).row2; have HC7 := jd (aI hp7 (aI ho7 (aI (hk7 _ _ _ (ju HZ).row (by decide)) (aI (hk7 _ _ _ h2 (by decide)) (Below.trans (ju HZ).bel hb7))))); clear hp7 ho7 hb7 hk7 h2)
      | (refine bx_st rfl 31 (.tmp 2) _ rfl b (gc sc.winIf x7) _ rfl rfl (ju HC7).2.2.1 (zP _ _) rfl (gc_one _ _) ?_; intro w8 hr8 hc8; have HO8 := jd ((ju HC7).2.1.box (ju HC7).2.2.1 (by decide) hc8); have HZ8 : Hid (TzG W w8 b b2 sc.winIf x7) := jd ⟨hr8, (ju HC7).1.box (ju HC7).2.2.1 hc8, bel_off (ju HC7).2.2.2.2 hc8 (ju HZ).ge, ⟨_, _, hc8.row (ju HC7).2.2.2.1 (ju HZ).ne⟩, (ju HZ).ge, (ju HZ).ge2, (ju HZ).ne⟩; clear hr8 hc8 HC7 HZ)
      | (refine bx_ldK 31 (.tmp 2) (by exact rfl) b (by exact rfl) (by exact rfl) _ _ (ju HZ8).row u31 (zP _ _) ?_)
      | go_guarded
      | (obtain ⟨s2, x2, h2⟩ := (ju HZ8).row2; refine bx_st rfl 31 (.tmp 4) _ rfl b2 (gc sc.winIf x7) _ rfl rfl h2 (zP _ _) rfl (gc_one _ _) ?_; intro w9 hr9 hc9; have HR9 := jd (aI hr9 (aI ((ju HO8).box h2 (by decide) hc9) ((ju HZ8).out h2 hc9))); clear hr9 hc9 h2))
     rw [ju HE]
     exact bodyPost_ret (res3 (p := 4) (q := 5) (r := 6) rfl u31 (zP _ _) (ju HR9).1 _ _ _ rfl rfl rfl) rfl ⟨_, _, _, rfl, (ju HR9).2.2.1, (ju HR9).2.1, (ju HR9).2.2.2⟩
   ·have HE : Hid (s.tick draw = ({ s with idle := i1 }, [])) := jd (by unfold GP.tick; rw [if_neg hr, if_pos (show s.calm from Or.inr (Or.inl hse)), ju HS1])
    rw [decide_eq_false hse] at HSe
    clear h hz hm hll hd q1 q2 q3 q4 m64 hris hb62 hidl hr hfr hi1 hi1'
    go_enter Tryz.func71, Tryz.ntmps71
    go_wp2_with (first
     | go_skip
     | (refine bx_boxK 31 (.tmp 0) (by exact rfl) (by exact rfl) (gc s x) (by exact rfl) ?_; intro b w0 hr0 hs0 hb0; have HR0 := jd hr0; have HB0 := jd (aI hb0 hs0); clear hr0 hs0 hb0)
     | (refine bx_new rfl 31 rfl _ Tryz.zeroP ?_; intro b2 w1 hr1 hs1 hb1; have HY : Hid (TyG W w1 b b2 s x) := jd ⟨hb1.row (ju HR0), (ju HB0).1.trans hb1, ⟨_, _, hr1⟩, by have := (ju HB0).2; omega, by have := (ju HB0).1.size; omega, fun e => by have := lt_of_some (ju HR0); omega⟩; clear hr1 hs1 hb1 HR0 HB0)
     | (refine bx_ldK 31 (.tmp 2) (by exact rfl) b (by exact rfl) (by exact rfl) (gc s x) _ (ju HY).row u31 (zP _ _) ?_)
     | (go_at_call 42; refine ((ju H1) _ (ju HY).bel).mono ?_; rintro e w2 ⟨rfl, hb2⟩; replace HY := jd ((ju HY).next hb2); clear hb2)
     | (go_at_call 41; refine ((ju H2) _ (ju HY).bel).mono ?_; rintro e w3 ⟨x1, rfl, hf3, hb3⟩; have HF3 := jd hf3; replace HY := jd ((ju HY).next hb3); clear hb3 hf3)
     | (refine bx_st rfl 31 (.tmp 2) _ rfl b (gc s x1) _ rfl rfl (ju HY).row (zP _ _) rfl (gc_one _ _) ?_; intro w4 hr4 hc4; have y4 := (Bg.of hr4).c4; have y12 := (Bg.of hr4).c12; have HZ := jd ((ju HY).put (ju HF3) hr4 hc4); clear hr4 hc4 HY HF3)
     | (refine gl_idle rfl _ _ rfl b _ rfl rfl (ju HZ).row ?_; intro w5 hr5 hc5; have z12 := (Bg.of hr5).c12; have z13 := (Bg.of hr5).c13; have z2 := (Bg.of hr5).c2; clear y4 y12; replace HZ := jd ((ju HZ).set hr5 hc5 (fun p => ⟨p.m, p.b, p.l, p.v, p.f, p.r, p.dv⟩)); clear hr5 hc5)
     | (go_at_call 128; refine ((ju HSe) _ _ (ju HZ).pg.gp.m).mono ?_; rintro e w6 ⟨rfl, hb6⟩; replace HZ := jd ((ju HZ).next hb6); have z2 := (Bg.of (ju HZ).row).c2; clear hb6)
     | (refine bx_ldK 31 (.tmp 2) (by exact rfl) b (by exact rfl) (by exact rfl) _ _ (ju HZ).row u31 (zP _ _) ?_)
     | go_guarded
     | (obtain ⟨s2, x2, h2⟩ := (ju HZ).row2; refine bx_st rfl 31 (.tmp 4) _ rfl b2 _ _ rfl rfl h2 (zP _ _) rfl (gc_one _ _) ?_; intro w9 hr9 hc9; have HR9 := jd (aI hr9 ((ju HZ).out h2 hc9)); clear hr9 hc9 h2))
    rw [ju HE]
    exact bodyPost_ret (res3 (p := 4) (q := 5) (r := 6) rfl u31 (zP _ _) (ju HR9).1 _ _ _ rfl rfl rfl) rfl ⟨_, _, _, rfl, (ju HR9).2.1, El.O.nil _ _, (ju HR9).2.2⟩
end Go.Proofs.YthekbhliokcpcaaGreat
