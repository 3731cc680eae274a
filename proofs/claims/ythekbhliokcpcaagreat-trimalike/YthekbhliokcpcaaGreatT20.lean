/- logs.Tick of any member. -/
import Derived.Test.YthekbhliokcpcaaGreatT19
namespace Go.Proofs.YthekbhliokcpcaaGreat
open Go.RowKit Go.Maps Go.Sort
def GP.ltick (s : GP) (draw : Int) : GP × List GM := if (s.tick draw).1.role = 2 then (if s.role = 2 then (s.tick draw).1.adv.beat else ((s.tick draw).1.adv, (s.tick draw).2.map (·.1))) else ((s.tick draw).1, (s.tick draw).2.map (·.1))
theorem Pg.beat {base : Nat} {W : World} {s : GP} {x : Px} (h : Pg base W s x) : Pg base W s.beat.1 x := by
 unfold GP.beat
 split
 ·exact ⟨h.m, h.b, h.l, h.v, h.f, h.r, h.dv⟩
 ·exact ⟨h.m, h.b, h.l, h.v, h.f, h.r, h.dv⟩
theorem tick_plain (s : GP) (draw : Int) : ∀ y ∈ (s.tick draw).2, y.2 = gzx ∧ y.1.ents = [] ∧ y.1.mem = [] := by
 unfold GP.tick
 split
 ·intro y hy; cases hy
 ·split
  ·intro y hy; cases hy
  ·intro y hy
   obtain ⟨i, _, rfl⟩ := List.mem_map.1 (show y ∈ (othG (s.later.cand draw)).map _ from hy)
   exact ⟨rfl, rfl, rfl⟩
theorem win_lastI (u : GP) : u.win.lastI = u.lastI + 1 := by
 unfold GP.lastI GP.win
 simp only [List.length_append, List.length_singleton]
 omega
theorem lf_win {u : GP} (m1 : 0 < u.M.length) (m64 : u.M.length ≤ 64) (ids : aids 0 u.M = true) (hin : u.id ∈ u.M) (t1 : 0 < u.term) (b0 : 0 ≤ u.base) (b62 : u.base ≤ 4611686018427387904) (com : u.base ≤ u.commit ∧ u.commit ≤ u.lastI) : Lf u.win := by
 have hm : (u.win.fol).map (·.1) = othG u := by
  show ((othG u).map fun i => (i, u.lastI + 1, (0 : Int))).map (·.1) = othG u
  rw [List.map_map]
  exact List.map_id' _
 refine ⟨m1, m64, ids, hm, ?_, fun f hf => ?_, fun q => ?_, t1, b62, ?_, rfl, rfl⟩
 ·show ((othG u).map _).length ≤ 64
  rw [List.length_map]
  exact Nat.le_trans (List.length_filter_le _ _) m64
 ·obtain ⟨i, _, rfl⟩ := List.mem_map.1 (show f ∈ (othG u).map _ from hf)
  rw [win_lastI]
  have : u.lastI = u.base + u.log.length := rfl
  show 1 ≤ u.lastI + 1 ∧ u.lastI + 1 ≤ u.lastI + 1 + 1 ∧ (0 : Int) < u.lastI + 1
  omega
 ·unfold GP.have at q
  rw [if_pos (show u.win.id ∈ u.win.M from hin)] at q
  cases q
 ·rw [win_lastI]
  show u.base ≤ u.commit ∧ u.commit ≤ u.lastI + 1
  omega
theorem tick_won {s : GP} {draw : Int} (h1 : (s.tick draw).1.role = 2) (h2 : s.role ≠ 2) : s.id ∈ s.M ∧ (s.tick draw).1 = (s.later.cand draw).win ∧ s.term < 4611686018427387904 := by
 unfold GP.tick at h1 ⊢
 rw [if_neg h2] at h1 ⊢
 by_cases c : s.calm
 ·rw [if_pos c] at h1
  exact absurd h1 h2
 ·rw [if_neg c] at h1 ⊢
  have c2 : s.id ∈ s.M := Classical.byContradiction fun q => c (Or.inr (Or.inl q))
  have c3 : ¬ 4611686018427387904 ≤ s.term := fun q => c (Or.inr (Or.inr q))
  refine ⟨c2, ?_, by omega⟩
  show (s.later.cand draw).winIf = (s.later.cand draw).win
  have h1' : (s.later.cand draw).winIf.role = 2 := h1
  unfold GP.winIf at h1' ⊢
  by_cases q : (s.later.cand draw).maj = true
  ·rw [if_pos q]
  ·rw [if_neg q] at h1'
   exact absurd h1' (by show ¬ (1 : Int) = 2; decide)
theorem may_idle {s : GP} (h : mayG s = true) : 0 ≤ s.idle ∧ s.idle ≤ 1073741824 := by
 obtain ⟨q1, _, _, _⟩ := mayG_num h
 unfold numB at q1
 simp only [Bool.and_eq_true, decide_eq_true_eq] at q1
 exact ⟨q1.2.2.2.2.2.2.2.2.2.1, q1.2.2.2.2.2.2.2.2.2.2⟩
theorem may_com2 {s : GP} (h : mayG s = true) : s.base ≤ s.commit ∧ s.commit ≤ s.lastI := by
 have h2 := (mayG_num h).2.1
 unfold logB at h2
 simp only [Bool.and_eq_true, decide_eq_true_eq] at h2
 exact ⟨h2.2.2.2.2.1, h2.2.2.2.2.2⟩
set_option maxRecDepth 100000 in
set_option maxHeartbeats 4000000 in
theorem ltick_g {W : World} {s : GP} {x : Px} (h : Gp W s x) (hz : Gz s x) (hm : mayG s = true) (hll : s.log.length ≤ 99999) (draw : Int) (hd : 0 ≤ draw) : Calls Tryz.prog 28 #[.agg (gc s x), .int .i64 draw] W fun e w' => ∃ x' aA cA, e = .returned (.tuple #[.agg (gc (s.ltick draw).1 x'), .slice aA (s.ltick draw).2.length cA, .int .i64 0]) ∧ Pg W.heap.size w' (s.ltick draw).1 x' ∧ Ms W.heap.size w' (.slice aA (s.ltick draw).2.length cA) (s.ltick draw).2 ∧ Bel W w' := by
 obtain ⟨s1, hs1⟩ : ∃ s1, s1 = (s.tick draw).1 := ⟨_, rfl⟩
 obtain ⟨l1, hl1⟩ : ∃ l1, l1 = (s.tick draw).2.map (·.1) := ⟨_, rfl⟩
 obtain ⟨nA, hnA⟩ : ∃ nA, nA = l1.length := ⟨_, rfl⟩
 have HNA := jd hnA
 have HT : Hid (∀ W', Bel W W' → Calls Tryz.prog 71 #[.agg (gc s x), .int .i64 draw] W' fun e w' => ∃ x' aA cA, e = .returned (.tuple #[.agg (gc s1 x'), .slice aA nA cA, .int .i64 0]) ∧ Pg W.heap.size w' s1 x' ∧ Ms W.heap.size w' (.slice aA nA cA) l1 ∧ Bel W' w') := jd (fun W' hb => by
  have q := tick_g (h.bel hb) hz hm hll draw hd
  have e9 : nA = (s.tick draw).2.length := by rw [hnA, hl1, List.length_map]
  rw [e9, hs1, hl1]
  exact q.mono (fun _ _ ⟨x', aA, cA, he, hf, ho, hb'⟩ => ⟨x', aA, cA, he, hf.mono hb.size, (Ms.plain ho (tick_plain s draw)).mono hb.size, hb'⟩))
 obtain ⟨q1, q2, q3, q4⟩ := mayG_num hm
 have m64 := mem64 q2 q3
 have hids := (mem_ids q2 q3).2
 have hb62 := numB_base q1
 by_cases hr1 : s1.role = 2
 ·have e2 : (s1.role != 2) = false := by simp [hr1]
  have e3 : (s1.role == 2) = true := by simp [hr1]
  by_cases hr : s.role = 2
  ·have e1 : (s.role == 2) = true := by simp [hr]
   have e8 : s1 = s := by rw [hs1]; unfold GP.tick; rw [if_pos hr]
   have hlf := lf_of hm hr
   have H4 : Hid (∀ W' x', Gp W' s1 x' → Calls Tryz.prog 72 #[.agg (gc s1 x')] W' fun e w' => e = .returned (.agg (gc s1.adv x')) ∧ Bel W' w') := jd (fun W' x' hp => by
    rw [e8] at hp ⊢
    exact hlf.adv_call hp hz.base.1 (by omega) (fun f hf => (hz.ft f hf).2.1))
   have HE : Hid (s.ltick draw = s1.adv.beat) := jd (by unfold GP.ltick; rw [← hs1, if_pos hr1, if_pos hr])
   have HBT : Hid (∀ W' x', Pg W.heap.size W' s1.adv x' → Calls Tryz.prog 73 #[.agg (gc s1.adv x')] W' fun e w' => ∃ aA cA, e = .returned (.tuple #[.agg (gc s1.adv.beat.1 x'), .slice aA s1.adv.beat.2.length cA]) ∧ Ms W'.heap.size w' (.slice aA s1.adv.beat.2.length cA) s1.adv.beat.2 ∧ Bel W' w') := jd (fun W' x' hp => by
    rw [e8] at hp ⊢
    exact beat_g ⟨hp.gp, hz.base.1, hb62, by show s.log.length ≤ _; omega, hp.cap, hz.lm, hz.b, fun f hf => ⟨(hlf.fb f hf).1, (hlf.fb f hf).2.1⟩⟩ (show 0 ≤ s.idle ∧ s.idle ≤ 1073741824 from may_idle hm) hlf.f64)
   clear h hz hm hll hd hr hr1 hs1 hl1 hnA q1 q2 q3 q4 m64 hids hb62 hlf e8
   obtain ⟨nB, hnB⟩ : ∃ nB, nB = s1.adv.beat.2.length := ⟨_, rfl⟩
   rw [← hnB] at HBT
   have HNB := jd hnB
   clear hnB
   go_enter Tryz.func28, Tryz.ntmps28
   go_wp2_with (first
    | go_skip
    | (refine bx_boxK 31 (.tmp 0) (by exact rfl) (by exact rfl) (gc s x) (by exact rfl) ?_; intro b w0 hr0 hs0 hb0; have HR0 := jd hr0; have HB0 := jd (aI hb0 hs0); clear hr0 hs0 hb0)
    | (refine bx_new rfl 31 rfl _ Tryz.zeroP ?_; intro b2 w1 hr1 hs1 hb1; have HY : Hid (TyG W w1 b b2 s x) := jd ⟨hb1.row (ju HR0), (ju HB0).1.trans hb1, ⟨_, _, hr1⟩, by have := (ju HB0).2; omega, by have := (ju HB0).1.size; omega, fun e => by have := lt_of_some (ju HR0); omega⟩; have y4 := (Bg.of (ju HY).row).c4; clear hr1 hs1 hb1 HR0 HB0)
    | (refine bx_ldK 31 (.tmp 2) (by exact rfl) b (by exact rfl) (by exact rfl) _ _ (ju HY).row u31 (zP _ _) ?_)
    | (go_at_call 71; refine ((ju HT) _ (ju HY).bel).mono ?_; rintro e w3 ⟨x1, aA, cA, rfl, hf3, hm3, hb3⟩; have HF3 := jd hf3; have HMB := jd hm3; replace HY := jd ((ju HY).next hb3); clear hb3 hf3 hm3)
    | (refine bx_st rfl 31 (.tmp 2) _ rfl b (gc s1 x1) _ rfl rfl (ju HY).row (zP _ _) rfl (gc_one _ _) ?_; intro w4 hr4 hc4; have y4 := (Bg.of hr4).c4; replace HMB := jd ((ju HMB).box (ju HY).row hc4); have HZ := jd ((ju HY).put (ju HF3) hr4 hc4); clear hr4 hc4 HY HF3)
    | (go_at_call 72; refine ((ju H4) _ _ (ju HZ).pg.gp).mono ?_; rintro e w8 ⟨rfl, hb8⟩; replace HMB := jd ((ju HMB).bel hb8); replace HZ := jd ((ju HZ).next hb8); clear hb8)
    | (refine bx_ldK 31 (.tmp 2) (by exact rfl) b (by exact rfl) (by exact rfl) _ _ (ju HZ).row u31 (zP _ _) ?_)
    | (refine bx_st rfl 31 (.tmp 2) _ rfl b (gc s1.adv x1) _ rfl rfl (ju HZ).row (zP _ _) rfl (gc_one _ _) ?_; intro w5 hr5 hc5; replace HMB := jd ((ju HMB).box (ju HZ).row hc5); have HA := jd ((ju HZ).put (s' := s1.adv) (ju HZ).pg.adv hr5 hc5); clear hr5 hc5 HZ)
    | (refine bx_ldK 31 (.tmp 2) (by exact rfl) b (by exact rfl) (by exact rfl) _ _ (ju HA).row u31 (zP _ _) ?_)
    | (go_at_call 73; refine ((ju HBT) _ _ (ju HA).pg).mono ?_; rintro e wb ⟨aB, cB, rfl, hmb, hbb⟩; replace HMB := jd (hmb.mono (ju HA).bel.size); replace HA := jd ((ju HA).next hbb); clear hmb hbb)
    | (refine bx_st rfl 31 (.tmp 2) _ rfl b (gc s1.adv.beat.1 x1) _ rfl rfl (ju HA).row (zP _ _) rfl (gc_one _ _) ?_; intro wc hrc hcc; replace HMB := jd ((ju HMB).box (ju HA).row hcc); have HD := jd ((ju HA).put (s' := s1.adv.beat.1) (ju HA).pg.beat hrc hcc); clear hrc hcc HA)
    | (refine bx_ldK 31 (.tmp 2) (by exact rfl) b (by exact rfl) (by exact rfl) _ _ (ju HD).row u31 (zP _ _) ?_)
    | go_guarded
    | (obtain ⟨s2, x2, h2⟩ := (ju HD).row2; refine bx_st rfl 31 (.tmp 4) _ rfl b2 (gc s1.adv.beat.1 x1) _ rfl rfl h2 (zP _ _) rfl (gc_one _ _) ?_; intro w9 hr9 hc9; have HR9 := jd (aI hr9 (aI ((ju HMB).box h2 hc9) ((ju HD).out h2 hc9))); clear hr9 hc9 h2))
   rw [ju HE, ← ju HNB]
   exact bodyPost_ret (res3 (p := 4) (q := 5) (r := 6) rfl u31 (zP _ _) (ju HR9).1 _ _ _ rfl rfl rfl) rfl ⟨_, _, _, rfl, (ju HR9).2.2.1, (ju HR9).2.1, (ju HR9).2.2.2⟩
  ·have e1 : (s.role == 2) = false := by simp [hr]
   obtain ⟨w1, w2, w3⟩ := tick_won (hs1 ▸ hr1) hr
   have e8 : s1 = (s.later.cand draw).win := hs1.trans w2
   have ht0 := hz.term
   have hlf : Lf s1 := by
    rw [e8]
    exact lf_win (u := s.later.cand draw) m64.1 m64.2 hids w1 (by show 0 < s.term + 1; omega) hz.base.1 hb62 (show s.base ≤ s.commit ∧ s.commit ≤ s.lastI from may_com2 hm)
   have hln : s1.log.length ≤ 1000000 := by
    rw [e8]; show (s.log ++ [_]).length ≤ _; rw [List.length_append, List.length_singleton]; omega
   have hb0 : 0 ≤ s1.base := by rw [e8]; exact hz.base.1
   have hft : ∀ f ∈ s1.fol, 0 ≤ f.2.2 := by
    rw [e8]; intro f hf
    obtain ⟨i, _, rfl⟩ := List.mem_map.1 (show f ∈ (othG (s.later.cand draw)).map _ from hf)
    show (0 : Int) ≤ 0; decide
   have H4 : Hid (∀ W' x', Gp W' s1 x' → Calls Tryz.prog 72 #[.agg (gc s1 x')] W' fun e w' => e = .returned (.agg (gc s1.adv x')) ∧ Bel W' w') := jd (fun W' x' hp => hlf.adv_call hp hb0 hln hft)
   have HE : Hid (s.ltick draw = (s1.adv, l1)) := jd (by unfold GP.ltick; rw [← hs1, ← hl1, if_pos hr1, if_neg hr])
   clear h hz hm hll hd hr hr1 hs1 hl1 hnA q1 q2 q3 q4 m64 hids hb62 hlf e8 w1 w2 w3 ht0 hln hb0 hft
   go_enter Tryz.func28, Tryz.ntmps28
   go_wp2_with (first
    | go_skip
    | (refine bx_boxK 31 (.tmp 0) (by exact rfl) (by exact rfl) (gc s x) (by exact rfl) ?_; intro b w0 hr0 hs0 hb0; have HR0 := jd hr0; have HB0 := jd (aI hb0 hs0); clear hr0 hs0 hb0)
    | (refine bx_new rfl 31 rfl _ Tryz.zeroP ?_; intro b2 w1 hr1 hs1 hb1; have HY : Hid (TyG W w1 b b2 s x) := jd ⟨hb1.row (ju HR0), (ju HB0).1.trans hb1, ⟨_, _, hr1⟩, by have := (ju HB0).2; omega, by have := (ju HB0).1.size; omega, fun e => by have := lt_of_some (ju HR0); omega⟩; have y4 := (Bg.of (ju HY).row).c4; clear hr1 hs1 hb1 HR0 HB0)
    | (refine bx_ldK 31 (.tmp 2) (by exact rfl) b (by exact rfl) (by exact rfl) _ _ (ju HY).row u31 (zP _ _) ?_)
    | (go_at_call 71; refine ((ju HT) _ (ju HY).bel).mono ?_; rintro e w3 ⟨x1, aA, cA, rfl, hf3, hm3, hb3⟩; have HF3 := jd hf3; have HMB := jd hm3; replace HY := jd ((ju HY).next hb3); clear hb3 hf3 hm3)
    | (refine bx_st rfl 31 (.tmp 2) _ rfl b (gc s1 x1) _ rfl rfl (ju HY).row (zP _ _) rfl (gc_one _ _) ?_; intro w4 hr4 hc4; have y4 := (Bg.of hr4).c4; replace HMB := jd ((ju HMB).box (ju HY).row hc4); have HZ := jd ((ju HY).put (ju HF3) hr4 hc4); clear hr4 hc4 HY HF3)
    | (go_at_call 72; refine ((ju H4) _ _ (ju HZ).pg.gp).mono ?_; rintro e w8 ⟨rfl, hb8⟩; replace HMB := jd ((ju HMB).bel hb8); replace HZ := jd ((ju HZ).next hb8); clear hb8)
    | (refine bx_ldK 31 (.tmp 2) (by exact rfl) b (by exact rfl) (by exact rfl) _ _ (ju HZ).row u31 (zP _ _) ?_)
    | (refine bx_st rfl 31 (.tmp 2) _ rfl b (gc s1.adv x1) _ rfl rfl (ju HZ).row (zP _ _) rfl (gc_one _ _) ?_; intro w5 hr5 hc5; replace HMB := jd ((ju HMB).box (ju HZ).row hc5); have HA := jd ((ju HZ).put (s' := s1.adv) (ju HZ).pg.adv hr5 hc5); clear hr5 hc5 HZ)
    | (refine bx_ldK 31 (.tmp 2) (by exact rfl) b (by exact rfl) (by exact rfl) _ _ (ju HA).row u31 (zP _ _) ?_)
    | go_guarded
    | (obtain ⟨s2, x2, h2⟩ := (ju HA).row2; refine bx_st rfl 31 (.tmp 4) _ rfl b2 (gc s1.adv x1) _ rfl rfl h2 (zP _ _) rfl (gc_one _ _) ?_; intro w9 hr9 hc9; have HR9 := jd (aI hr9 (aI ((ju HMB).box h2 hc9) ((ju HA).out h2 hc9))); clear hr9 hc9 h2))
   rw [ju HE, ← ju HNA]
   exact bodyPost_ret (res3 (p := 4) (q := 5) (r := 6) rfl u31 (zP _ _) (ju HR9).1 _ _ _ rfl rfl rfl) rfl ⟨_, _, _, rfl, (ju HR9).2.2.1, (ju HR9).2.1, (ju HR9).2.2.2⟩
 ·have e2 : (s1.role != 2) = true := by simp [hr1]
  have e3 : (s1.role == 2) = false := by simp [hr1]
  have HE : Hid (s.ltick draw = (s1, l1)) := jd (by unfold GP.ltick; rw [← hs1, ← hl1, if_neg hr1])
  clear h hz hm hll hd hr1 hs1 hl1 hnA q1 q2 q3 q4 m64 hids hb62
  generalize hld : (s.role == 2) = ld
  go_enter Tryz.func28, Tryz.ntmps28
  go_wp2_with (first
   | go_skip
   | (refine bx_boxK 31 (.tmp 0) (by exact rfl) (by exact rfl) (gc s x) (by exact rfl) ?_; intro b w0 hr0 hs0 hb0; have HR0 := jd hr0; have HB0 := jd (aI hb0 hs0); clear hr0 hs0 hb0)
   | (refine bx_new rfl 31 rfl _ Tryz.zeroP ?_; intro b2 w1 hr1 hs1 hb1; have HY : Hid (TyG W w1 b b2 s x) := jd ⟨hb1.row (ju HR0), (ju HB0).1.trans hb1, ⟨_, _, hr1⟩, by have := (ju HB0).2; omega, by have := (ju HB0).1.size; omega, fun e => by have := lt_of_some (ju HR0); omega⟩; have y4 := (Bg.of (ju HY).row).c4; clear hr1 hs1 hb1 HR0 HB0)
   | (refine bx_ldK 31 (.tmp 2) (by exact rfl) b (by exact rfl) (by exact rfl) _ _ (ju HY).row u31 (zP _ _) ?_)
   | (go_at_call 71; refine ((ju HT) _ (ju HY).bel).mono ?_; rintro e w3 ⟨x1, aA, cA, rfl, hf3, hm3, hb3⟩; have HF3 := jd hf3; have HMB := jd hm3; replace HY := jd ((ju HY).next hb3); clear hb3 hf3 hm3)
   | (refine bx_st rfl 31 (.tmp 2) _ rfl b (gc s1 x1) _ rfl rfl (ju HY).row (zP _ _) rfl (gc_one _ _) ?_; intro w4 hr4 hc4; have y4 := (Bg.of hr4).c4; replace HMB := jd ((ju HMB).box (ju HY).row hc4); have HZ := jd ((ju HY).put (ju HF3) hr4 hc4); clear hr4 hc4 HY HF3)
   | (refine bx_ldK 31 (.tmp 2) (by exact rfl) b (by exact rfl) (by exact rfl) _ _ (ju HZ).row u31 (zP _ _) ?_)
   | go_guarded
   | (obtain ⟨s2, x2, h2⟩ := (ju HZ).row2; refine bx_st rfl 31 (.tmp 4) _ rfl b2 (gc s1 x1) _ rfl rfl h2 (zP _ _) rfl (gc_one _ _) ?_; intro w9 hr9 hc9; have HR9 := jd (aI hr9 (aI ((ju HMB).box h2 hc9) ((ju HZ).out h2 hc9))); clear hr9 hc9 h2))
  rw [ju HE, ← ju HNA]
  exact bodyPost_ret (res3 (p := 4) (q := 5) (r := 6) rfl u31 (zP _ _) (ju HR9).1 _ _ _ rfl rfl rfl) rfl ⟨_, _, _, rfl, (ju HR9).2.2.1, (ju HR9).2.1, (ju HR9).2.2.2⟩
end Go.Proofs.YthekbhliokcpcaaGreat
