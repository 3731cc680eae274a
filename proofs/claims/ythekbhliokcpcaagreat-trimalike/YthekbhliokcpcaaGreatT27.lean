/- A message of logs comes to any member that has no readings. logs.Advance of who does not lead, takeVotes of any member. A leader's snapshot comes to any member: the early answers; a message of any kind. keep.Kept of any member. -/
import Derived.Test.YthekbhliokcpcaaGreatT25
import Derived.Test.YthekbhliokcpcaaGreatT26
import Derived.Test.YthekbhliokcpcaaGreatT20
import Derived.Test.YthekbhliokcpcaaGreatT22
namespace Go.Proofs.YthekbhliokcpcaaGreat
open Go.RowKit Go.Maps Go.Sort
section
variable {W : World} {s : GP} {x : Px} {m : GM} {y : GX}
set_option maxRecDepth 100000 in
set_option maxHeartbeats 8000000 in
theorem ltake_g (h : Gp W s x) (hz : Gz s x) (hm : mayG s = true) (hw : Gw W m y) (hme : m.ents.length ≤ 16 ∧ m.mem.length ≤ 1048576 ∧ ∀ z ∈ y.ls, z.1.m.length ≤ 1048576) (hmm : mayMB m = true) (hto : m.to = s.id) (hkd : m.kind = 3 ∨ m.kind = 4) (ht : m.term ≤ 4611686018427387904) (hi : 0 ≤ m.index ∧ m.index ≤ 4611686018427387904) (hec : m.ents.length ≤ y.ec) (hmu : mayG (s.raise m.term) = true) (hzu : ∀ x', (s.raise m.term).log.length ≤ x'.cL → Gz (s.raise m.term) x') (hne : m.kind = 3 → ¬ m.index < s.base → s.tAt m.index ≠ some m.lterm → 1 ≤ m.index) (hM : s.M.length ≤ 64) (hfl : (s.raise m.term).fol.length ≤ 64) (hfo : ∀ f ∈ (s.raise m.term).fol, 1 ≤ f.2.1 ∧ f.2.1 ≤ s.lastI + 1 ∧ f.2.2 < f.2.1 ∧ 0 ≤ f.2.2) (hnd : ((s.raise m.term).fol.map (·.1)).Nodup) (hre : (s.raise m.term).reads = []) : Calls Tryz.prog 136 #[.agg (gc s x), .agg (mg m y)] W fun e w' => ∃ x' aA cA, e = .returned (.tuple #[.agg (gc (s.ltake m).1 x'), .slice aA (s.ltake m).2.length cA, .int .i64 0]) ∧ Gt w' (s.ltake m).1 x' ∧ Lc W.heap.size x' (s.ltake m).1.log.length ∧ Ms W.heap.size w' (.slice aA (s.ltake m).2.length cA) (s.ltake m).2 ∧ Bel W w' := by
 have H1 : Hid (∀ W', Bel W W' → Calls Tryz.prog 42 #[.agg (gc s x)] W' fun e w' => e = .returned (.int .i64 0) ∧ Bel W' w') := jd (fun W' hb => by have := may_g (h.bel hb) hz; rwa [hm, if_pos rfl] at this)
 have H3 : Hid (∀ W', Bel W W' → Calls Tryz.prog 177 #[.agg (mg m y)] W' fun e w' => e = .returned (.int .i64 0) ∧ Bel W' w') := jd (fun W' hb => by have := maymsg_any (hw.bel hb) (by omega) hme.2.1 hme.2.2; rwa [hmm, if_pos rfl] at this)
 have HR : Hid (∀ W', Bel W W' → Calls Tryz.prog 179 #[.agg (gc s x), .int .u64 m.term] W' fun e w' => ∃ x', e = .returned (.agg (gc (s.raise m.term) x')) ∧ Pg W'.heap.size w' (s.raise m.term) x' ∧ Bel W' w') := jd (fun W' hb => raised_g (h.bel hb) hz hm m.term ht)
 have hru : (s.raise m.term).log = s.log ∧ (s.raise m.term).base = s.base ∧ (s.raise m.term).baseT = s.baseT ∧ (s.raise m.term).B = s.B ∧ (s.raise m.term).M = s.M := by
  unfold GP.raise
  split <;> exact ⟨rfl, rfl, rfl, rfl, rfl⟩
 have hruI : (s.raise m.term).lastI = s.lastI := by unfold GP.lastI; rw [hru.1, hru.2.1]
 have hruT : ∀ i, (s.raise m.term).tAt i = s.tAt i := fun i => by unfold GP.tAt GP.upTo; rw [hru.1, hru.2.1, hru.2.2.1]
 have hb62 : s.base ≤ 4611686018427387904 := numB_base (mayG_num hm).1
 have hll := hz.l
 have hl2 : ∀ e ∈ m.ents, e.m.length ≤ 17592186044416 := fun e he => by
  rw [← hw.e] at he
  obtain ⟨z, hz2, rfl⟩ := List.mem_map.1 he
  have := hme.2.2 z hz2
  omega
 rcases hkd with hk | hk
 ·have hN : Hid (∀ W0 W' x', Bel W W0 → Bel W0 W' → Pg W0.heap.size W' (s.raise m.term) x' → Calls Tryz.prog 178 #[.agg (gc (s.raise m.term) x'), .agg (mg m y)] W' fun e w' => ∃ x' aA cA, e = .returned (.tuple #[.agg (gc (s.ltake m).1 x'), .slice aA (s.ltake m).2.length cA]) ∧ Gt w' (s.ltake m).1 x' ∧ Lc W0.heap.size x' (s.ltake m).1.log.length ∧ Ms W0.heap.size w' (.slice aA (s.ltake m).2.length cA) (s.ltake m).2 ∧ Bel W0 w') := jd (fun W0 W' x' hb0 hb hp => by
   have el : s.ltake m = (s.raise m.term).takeLay m := by unfold GP.ltake; rw [if_pos hk]
   rw [el]
   exact (takeLay_g W0.heap.size hb.size hp.gt (hzu x' hp.cap) hmu hp.lc (hw.bel (hb0.trans hb)) ht hec hi hme.1 hl2 (by rw [hru.2.1, hruT]; exact hne hk)).mono (fun e w' ⟨x2, aA, cA, e1, e2, e3, e4, e5⟩ => ⟨x2, aA, cA, e1, e2, e3, e4.mono hb.size, hb.trans e5⟩))
  have e0 : (m.kind == 3) = true := beq_iff_eq.2 hk
  have e1 : (m.to != s.id) = false := by simp [hto]
  clear h hz hm hw hme hmm hto ht hi hec hmu hzu hne hM hfl hfo hnd hre hru hruI hruT hb62 hll hl2 hk
  generalize s.ltake m = r at *
  generalize hu : s.raise m.term = u at *
  clear hu
  go_enter Tryz.func136, Tryz.ntmps136
  go_wp2_with (first
   | go_skip
   | (refine bx_boxK 31 (.tmp 0) (by exact rfl) (by exact rfl) (gc s x) (by exact rfl) ?_; intro b w0 hr0 hs0 hb0; have HR0 := jd hr0; have HB0 := jd (aI hb0 hs0); clear hr0 hs0 hb0)
   | (refine bx_boxK 87 (.tmp 1) (by exact rfl) (by exact rfl) (mg m y) (by exact rfl) ?_; intro b3 w1 hr1 hs1 hb1; have HM0 := jd (aI hr1 hs1); have HB1 := jd hb1; clear hr1 hs1 hb1)
   | (refine bx_new rfl 31 rfl _ Tryz.zeroP ?_; intro b2 w2 hr2 hs2 hb2; have HA := jd (Aq.mk0 (ju HB0).1 (ju HB0).2 (ju HR0) (ju HB1) (ju HM0).2 (ju HM0).1 hb2 hs2 hr2); clear hr2 hs2 hb2 HR0 HB0 HM0 HB1)
   | (refine bx_ldK 31 (.tmp 2) (by exact rfl) b (by exact rfl) (by exact rfl) _ _ (ju HA).row Tryz.underlying31 (zP _ _) ?_)
   | (refine bx_ldK 87 (.tmp 3) (by exact rfl) b3 (by exact rfl) (by exact rfl) _ _ (ju HA).rm Tryz.underlying87 (szM _ _) ?_)
   | (go_at_call 42; refine ((ju H1) _ (ju HA).bel).mono ?_; rintro e w3 ⟨rfl, hb3⟩; replace HA := jd ((ju HA).next hb3); clear hb3)
   | (go_at_call 177; refine ((ju H3) _ (ju HA).bel).mono ?_; rintro e w4 ⟨rfl, hb4⟩; replace HA := jd ((ju HA).next hb4); clear hb4; have y0 := (Bg.of (ju HA).row).c0; have m0 := (Mb2.of (ju HA).rm).c0; have m2 := (Mb2.of (ju HA).rm).c2; )
   | go_guarded)
  clear y0 m0 m2
  have hA := (ju HA).next (Bel.refl w4).drew
  refine wp_region_held_drew (S := fun w => w.heap[b3]? = some (.cells (mg m y) 87)) Tryz.follows hA.rm (fun hS => ?_)
  clear HA
  generalize w4.drew = wd at *
  refine any_take (i := 1) (v := .pointer (some ⟨b3, 3, none⟩)) rfl (by kernel_rfl) (fun _ _ _ h => h) rfl hS (fun w hw => by go_simp) ?_
  refine any_take (i := 2) (v := .int .u64 m.term) rfl (by kernel_rfl) (fun _ _ _ h => h) rfl hS (fun w hw => by have := (Mb2.of hw).c3; go_simp) ?_
  refine any_take (i := 4) (v := .agg (mg m y)) rfl (by kernel_rfl) (fun _ _ _ h => h) rfl hS (fun w hw => ldM_run (.tmp 3) (by exact rfl) (by go_simp) hw) ?_
  refine any_do (i := 0) (v := .agg (gc s x)) (w' := wd) (by kernel_rfl) rfl rfl (ldP_run (.tmp 2) (by exact rfl) (by go_simp) hA.row) ⟨hS, ?_⟩
  refine any_call (i := 3) (by kernel_rfl) rfl rfl (by go_simp) ((ju HR) wd hA.bel) ?_
  rintro e w5 ⟨x5, rfl, hp5, hb5⟩
  have hS5 := hb5.row hS
  refine ⟨_, rfl, hS5, ?_⟩
  have hA5 := hA.next hb5
  refine any_call (i := 5) (by kernel_rfl) rfl rfl (by go_simp) ((ju hN) wd w5 x5 hA.bel hb5 hp5) ?_
  rintro e w6 ⟨x6, aA, cA, rfl, hg6, hc6, hm6, hb6⟩
  have hS6 := hb6.row hS
  refine ⟨_, rfl, hS6, ?_⟩
  have hA6 := hA.next hb6
  have hm7 := hm6.mono hA.bel.size
  replace hc6 := hc6.mono hA.bel.size
  clear hA5 hS5 hA hS hp5 hb5 hb6 hm6
  refine any_do (i := 6) (v := .tuple #[.agg (gc r.1 x6), .slice aA r.2.length cA]) (w' := w6) (by kernel_rfl) rfl rfl (by go_simp) ⟨hS6, ?_⟩
  have hS := hS6
  refine any_take (i := 7) (v := .agg (gc r.1 x6)) rfl (by kernel_rfl) (fun _ _ _ h => h) rfl hS (fun w hw => by go_simp) ?_
  refine any_take (i := 8) (v := .slice aA r.2.length cA) rfl (by kernel_rfl) (fun _ _ _ h => h) rfl hS (fun w hw => by go_simp) ?_
  have hch := ch_row (c' := gc r.1 x6) hA6.row
  have HG := jd (aI (hg6.box hA6.row hch.2) (aI hc6 (hm7.box hA6.row hch.2)))
  have HA := jd (hA6.set hch.1 hch.2)
  refine any_skip (i := 9) (w' := w6.setRow b (gc r.1 x6)) (by kernel_rfl) rfl rfl (st_run (s := r.1) (z := x6) (.tmp 2) (.tmp 36) (by exact rfl) (by go_simp) (by go_simp) hA6.row) ⟨(ju HA).rm, ?_⟩
  refine any_do (i := 10) (v := .slice aA r.2.length cA) (w' := w6.setRow b (gc r.1 x6)) (by kernel_rfl) rfl rfl (by go_simp) ⟨(ju HA).rm, ?_⟩
  refine wpAnyH_done (by kernel_rfl) ?_ _
  clear hch hA6 hS6 hS hg6 hc6 hm7
  generalize w6.setRow b (gc r.1 x6) = w7 at *
  simp [Act.put]
  go_wp2_with (first
   | go_skip
   | (refine bx_ldK 31 (.tmp 2) (by exact rfl) b (by exact rfl) (by exact rfl) _ _ (ju HA).row Tryz.underlying31 (zP _ _) ?_)
   | go_guarded
   | (obtain ⟨s9, x9, h2⟩ := (ju HA).row2; refine bx_st rfl 31 (.tmp 4) _ rfl b2 (gc r.1 x6) _ rfl rfl h2 (zP _ _) rfl (gc_one _ _) ?_; intro w9 hr9 hc9; have HR9 := jd (aI hr9 (aI ((ju HG).1.box h2 hc9) (aI (ju HG).2.1 (aI ((ju HG).2.2.box h2 hc9) (bel_off (ju HA).bel hc9 (ju HA).ge2))))); clear hr9 hc9 h2))
  have q := ju HR9
  exact bodyPost_ret (res3 (p := 4) (q := 5) (r := 6) rfl Tryz.underlying31 (zP _ _) q.1 _ _ _ rfl rfl rfl) rfl ⟨_, aA, cA, rfl, q.2.1, q.2.2.1, q.2.2.2.1, q.2.2.2.2⟩
 ·have hN : Hid (∀ W0 W' x', Bel W W0 → Bel W0 W' → Pg W0.heap.size W' (s.raise m.term) x' → Calls Tryz.prog 180 #[.agg (gc (s.raise m.term) x'), .agg (mg m y)] W' fun e w' => ∃ x' aA cA, e = .returned (.tuple #[.agg (gc (s.ltake m).1 x'), .slice aA (s.ltake m).2.length cA]) ∧ Gt w' (s.ltake m).1 x' ∧ Lc W0.heap.size x' (s.ltake m).1.log.length ∧ Ms W0.heap.size w' (.slice aA (s.ltake m).2.length cA) (s.ltake m).2 ∧ Bel W0 w') := jd (fun W0 W' x' hb0 hb hp => by
   have el : s.ltake m = (s.raise m.term).takeHeard m := by unfold GP.ltake; rw [if_neg (by omega)]
   rw [el]
   exact takeHeard_g ⟨hb, hp.gt, hp.f⟩ (by rw [hru.2.1]; exact hz.base.1) (by rw [hru.2.1]; exact hb62) (by rw [hru.1]; omega) hp.lc (by rw [hru.1]; exact hz.lm) (by rw [hru.2.2.2.1]; exact hz.b) (by rw [hru.2.2.2.2]; exact hM) hfl (by rw [hruI]; exact hfo) hnd hre hi)
  have e0 : (m.kind == 3) = false := beq_eq_false_iff_ne.2 (by omega)
  have e00 : (m.kind == 4) = true := beq_iff_eq.2 hk
  have e1 : (m.to != s.id) = false := by simp [hto]
  clear h hz hm hw hme hmm hto ht hi hec hmu hzu hne hM hfl hfo hnd hre hru hruI hruT hb62 hll hl2 hk
  generalize s.ltake m = r at *
  generalize hu : s.raise m.term = u at *
  clear hu
  go_enter Tryz.func136, Tryz.ntmps136
  go_wp2_with (first
   | go_skip
   | (refine bx_boxK 31 (.tmp 0) (by exact rfl) (by exact rfl) (gc s x) (by exact rfl) ?_; intro b w0 hr0 hs0 hb0; have HR0 := jd hr0; have HB0 := jd (aI hb0 hs0); clear hr0 hs0 hb0)
   | (refine bx_boxK 87 (.tmp 1) (by exact rfl) (by exact rfl) (mg m y) (by exact rfl) ?_; intro b3 w1 hr1 hs1 hb1; have HM0 := jd (aI hr1 hs1); have HB1 := jd hb1; clear hr1 hs1 hb1)
   | (refine bx_new rfl 31 rfl _ Tryz.zeroP ?_; intro b2 w2 hr2 hs2 hb2; have HA := jd (Aq.mk0 (ju HB0).1 (ju HB0).2 (ju HR0) (ju HB1) (ju HM0).2 (ju HM0).1 hb2 hs2 hr2); clear hr2 hs2 hb2 HR0 HB0 HM0 HB1)
   | (refine bx_ldK 31 (.tmp 2) (by exact rfl) b (by exact rfl) (by exact rfl) _ _ (ju HA).row Tryz.underlying31 (zP _ _) ?_)
   | (refine bx_ldK 87 (.tmp 3) (by exact rfl) b3 (by exact rfl) (by exact rfl) _ _ (ju HA).rm Tryz.underlying87 (szM _ _) ?_)
   | (go_at_call 42; refine ((ju H1) _ (ju HA).bel).mono ?_; rintro e w3 ⟨rfl, hb3⟩; replace HA := jd ((ju HA).next hb3); clear hb3)
   | (go_at_call 177; refine ((ju H3) _ (ju HA).bel).mono ?_; rintro e w4 ⟨rfl, hb4⟩; replace HA := jd ((ju HA).next hb4); clear hb4; have y0 := (Bg.of (ju HA).row).c0; have m0 := (Mb2.of (ju HA).rm).c0; have m2 := (Mb2.of (ju HA).rm).c2; )
   | go_guarded)
  clear y0 m0 m2
  have hA := (ju HA).next (Bel.refl w4).drew
  refine wp_region_held_drew (S := fun w => w.heap[b3]? = some (.cells (mg m y) 87)) Tryz.follows hA.rm (fun hS => ?_)
  clear HA
  generalize w4.drew = wd at *
  refine any_take (i := 1) (v := .pointer (some ⟨b3, 3, none⟩)) rfl (by kernel_rfl) (fun _ _ _ h => h) rfl hS (fun w hw => by go_simp) ?_
  refine any_take (i := 2) (v := .int .u64 m.term) rfl (by kernel_rfl) (fun _ _ _ h => h) rfl hS (fun w hw => by have := (Mb2.of hw).c3; go_simp) ?_
  refine any_take (i := 4) (v := .agg (mg m y)) rfl (by kernel_rfl) (fun _ _ _ h => h) rfl hS (fun w hw => ldM_run (.tmp 3) (by exact rfl) (by go_simp) hw) ?_
  refine any_do (i := 0) (v := .agg (gc s x)) (w' := wd) (by kernel_rfl) rfl rfl (ldP_run (.tmp 2) (by exact rfl) (by go_simp) hA.row) ⟨hS, ?_⟩
  refine any_call (i := 3) (by kernel_rfl) rfl rfl (by go_simp) ((ju HR) wd hA.bel) ?_
  rintro e w5 ⟨x5, rfl, hp5, hb5⟩
  have hS5 := hb5.row hS
  refine ⟨_, rfl, hS5, ?_⟩
  have hA5 := hA.next hb5
  refine any_call (i := 5) (by kernel_rfl) rfl rfl (by go_simp) ((ju hN) wd w5 x5 hA.bel hb5 hp5) ?_
  rintro e w6 ⟨x6, aA, cA, rfl, hg6, hc6, hm6, hb6⟩
  have hS6 := hb6.row hS
  refine ⟨_, rfl, hS6, ?_⟩
  have hA6 := hA.next hb6
  have hm7 := hm6.mono hA.bel.size
  replace hc6 := hc6.mono hA.bel.size
  clear hA5 hS5 hA hS hp5 hb5 hb6 hm6
  refine any_do (i := 6) (v := .tuple #[.agg (gc r.1 x6), .slice aA r.2.length cA]) (w' := w6) (by kernel_rfl) rfl rfl (by go_simp) ⟨hS6, ?_⟩
  have hS := hS6
  refine any_take (i := 7) (v := .agg (gc r.1 x6)) rfl (by kernel_rfl) (fun _ _ _ h => h) rfl hS (fun w hw => by go_simp) ?_
  refine any_take (i := 8) (v := .slice aA r.2.length cA) rfl (by kernel_rfl) (fun _ _ _ h => h) rfl hS (fun w hw => by go_simp) ?_
  have hch := ch_row (c' := gc r.1 x6) hA6.row
  have HG := jd (aI (hg6.box hA6.row hch.2) (aI hc6 (hm7.box hA6.row hch.2)))
  have HA := jd (hA6.set hch.1 hch.2)
  refine any_skip (i := 9) (w' := w6.setRow b (gc r.1 x6)) (by kernel_rfl) rfl rfl (st_run (s := r.1) (z := x6) (.tmp 2) (.tmp 47) (by exact rfl) (by go_simp) (by go_simp) hA6.row) ⟨(ju HA).rm, ?_⟩
  refine any_do (i := 10) (v := .slice aA r.2.length cA) (w' := w6.setRow b (gc r.1 x6)) (by kernel_rfl) rfl rfl (by go_simp) ⟨(ju HA).rm, ?_⟩
  refine wpAnyH_done (by kernel_rfl) ?_ _
  clear hch hA6 hS6 hS hg6 hc6 hm7
  generalize w6.setRow b (gc r.1 x6) = w7 at *
  simp [Act.put]
  go_wp2_with (first
   | go_skip
   | (refine bx_ldK 31 (.tmp 2) (by exact rfl) b (by exact rfl) (by exact rfl) _ _ (ju HA).row Tryz.underlying31 (zP _ _) ?_)
   | go_guarded
   | (obtain ⟨s9, x9, h2⟩ := (ju HA).row2; refine bx_st rfl 31 (.tmp 4) _ rfl b2 (gc r.1 x6) _ rfl rfl h2 (zP _ _) rfl (gc_one _ _) ?_; intro w9 hr9 hc9; have HR9 := jd (aI hr9 (aI ((ju HG).1.box h2 hc9) (aI (ju HG).2.1 (aI ((ju HG).2.2.box h2 hc9) (bel_off (ju HA).bel hc9 (ju HA).ge2))))); clear hr9 hc9 h2))
  have q := ju HR9
  exact bodyPost_ret (res3 (p := 4) (q := 5) (r := 6) rfl Tryz.underlying31 (zP _ _) q.1 _ _ _ rfl rfl rfl) rfl ⟨_, aA, cA, rfl, q.2.1, q.2.2.1, q.2.2.2.1, q.2.2.2.2⟩
end
set_option maxRecDepth 100000 in
set_option maxHeartbeats 4000000 in
theorem advance_n {W : World} {s : GP} {x : Px} (h : Gp W s x) (hz : Gz s x) (hm : mayG s = true) (hr : s.role ≠ 2) : Calls Tryz.prog 142 #[.agg (gc s x)] W fun e w' => ∃ x', e = .returned (.tuple #[.agg (gc s x'), .int .i64 0]) ∧ Pg W.heap.size w' s x' ∧ Bel W w' := by
 have H1 : Hid (∀ W', Bel W W' → Calls Tryz.prog 42 #[.agg (gc s x)] W' fun e w' => e = .returned (.int .i64 0) ∧ Bel W' w') := jd (fun W' hb => by have := may_g (h.bel hb) hz; rwa [hm, if_pos rfl] at this)
 have H2 : Hid (∀ W', Bel W W' → Calls Tryz.prog 41 #[.agg (gc s x)] W' fun e w' => ∃ x', e = .returned (.agg (gc s x')) ∧ Pg W.heap.size w' s x' ∧ Bel W' w') := jd (fun W' hb => (clone_g (h.bel hb) hz.m hz.b (by have := hz.l; omega) hz.lm hz.v (by have := hz.f; omega) (by have := hz.r; omega) hz.ra).mono (fun _ _ ⟨x', he, hp, hb'⟩ => ⟨x', he, hp.mono hb.size, hb'⟩))
 have e2 : (s.role == 2) = false := by simp [hr]
 clear h hz hm hr
 go_enter Tryz.func142, Tryz.ntmps142
 go_wp2_with (first
  | go_skip
  | (refine bx_boxK 31 (.tmp 0) (by exact rfl) (by exact rfl) (gc s x) (by exact rfl) ?_; intro b w0 hr0 hs0 hb0; have HR0 := jd hr0; have HB0 := jd (aI hb0 hs0); clear hr0 hs0 hb0)
  | (refine bx_new rfl 31 rfl _ Tryz.zeroP ?_; intro b2 w1 hr1 hs1 hb1; have HY : Hid (TyG W w1 b b2 s x) := jd ⟨hb1.row (ju HR0), (ju HB0).1.trans hb1, ⟨_, _, hr1⟩, by have := (ju HB0).2; omega, by have := (ju HB0).1.size; omega, fun e => by have := lt_of_some (ju HR0); omega⟩; clear hr1 hs1 hb1 HR0 HB0)
  | (refine bx_ldK 31 (.tmp 1) (by exact rfl) b (by exact rfl) (by exact rfl) (gc s x) _ (ju HY).row Tryz.underlying31 (zP _ _) ?_)
  | (refine bx_ldK 31 (.tmp 1) (by exact rfl) b (by exact rfl) (by exact rfl) _ _ (ju HZ).row Tryz.underlying31 (zP _ _) ?_)
  | go_guarded
  | (go_at_call 42; refine ((ju H1) _ (ju HY).bel).mono ?_; rintro e w2 ⟨rfl, hb2⟩; replace HY := jd ((ju HY).next hb2); clear hb2)
  | (go_at_call 41; refine ((ju H2) _ (ju HY).bel).mono ?_; rintro e w3 ⟨x1, rfl, hf3, hb3⟩; have HF3 := jd hf3; replace HY := jd ((ju HY).next hb3); clear hb3 hf3)
  | (refine bx_st rfl 31 (.tmp 1) _ rfl b (gc s x1) _ rfl rfl (ju HY).row (zP _ _) rfl (gc_one _ _) ?_; intro w4 hr4 hc4; have y4 := (Bg.of hr4).c4; have HZ := jd ((ju HY).put (ju HF3) hr4 hc4); clear hr4 hc4 HY HF3)
  | (obtain ⟨s2, x2, h2⟩ := (ju HZ).row2; refine bx_st rfl 31 (.tmp 2) _ rfl b2 (gc s x1) _ rfl rfl h2 (zP _ _) rfl (gc_one _ _) ?_; intro w9 hr9 hc9; have HR9 := jd (aI hr9 ((ju HZ).out h2 hc9)); clear hr9 hc9 h2))
 exact bodyPost_ret (res2 (p := 2) (q := 3) rfl Tryz.underlying31 (zP _ _) (ju HR9).1 _ _ rfl rfl) rfl ⟨_, rfl, (ju HR9).2.1, (ju HR9).2.2⟩
def GP.advIf (s : GP) : GP := if s.role = 2 then s.adv else s
theorem advIf_g {W : World} {s : GP} {x : Px} (h : Gp W s x) (hz : Gz s x) (hm : mayG s = true) : Calls Tryz.prog 142 #[.agg (gc s x)] W fun e w' => ∃ x', e = .returned (.tuple #[.agg (gc s.advIf x'), .int .i64 0]) ∧ Pg W.heap.size w' s.advIf x' ∧ Bel W w' := by
 unfold GP.advIf
 by_cases hr : s.role = 2
 ·rw [if_pos hr]; exact advance_g h hz hm hr
 ·rw [if_neg hr]; exact advance_n h hz hm hr
def GP.votesTake (s : GP) (m : GM) : GP × List GM := ((s.voteTake m).1.advIf, (s.voteTake m).2.map (·.1))
theorem vote_plain (s : GP) (m : GM) : ∀ y ∈ (s.voteTake m).2, y.2 = gzx ∧ y.1.ents = [] ∧ y.1.mem = [] := by
 unfold GP.voteTake
 generalize (if s.term < m.term then s.down m.term else s) = u
 unfold GP.vote1
 split
 ·unfold GP.ask
  split
  ·intro y hy; rw [List.mem_singleton.1 hy]; exact ⟨rfl, rfl, rfl⟩
  ·intro y hy; rw [List.mem_singleton.1 hy]; exact ⟨rfl, rfl, rfl⟩
 ·intro y hy; cases hy
set_option maxRecDepth 100000 in
set_option maxHeartbeats 4000000 in
theorem votesTake_g {W : World} {s : GP} {x : Px} {m : GM} {y : GX} (h : Gp W s x) (hz : Gz s x) (hm : mayG s = true) (hll : s.log.length ≤ 99999) (hw : Gw W m y) (hme : m.ents.length ≤ 1048576 ∧ m.mem.length ≤ 1048576 ∧ ∀ z ∈ y.ls, z.1.m.length ≤ 1048576) (hmm : mayMB m = true) (hto : m.to = s.id) (hkd : m.kind = 1 ∨ m.kind = 2) (hm2 : mayG (s.voteTake m).1 = true) (hz2 : ∀ x', (s.voteTake m).1.log.length ≤ x'.cL → Gz (s.voteTake m).1 x') : Calls Tryz.prog 135 #[.agg (gc s x), .agg (mg m y)] W fun e w' => ∃ x' aA cA, e = .returned (.tuple #[.agg (gc (s.votesTake m).1 x'), .slice aA (s.votesTake m).2.length cA, .int .i64 0]) ∧ Pg W.heap.size w' (s.votesTake m).1 x' ∧ Ms W.heap.size w' (.slice aA (s.votesTake m).2.length cA) (s.votesTake m).2 ∧ Bel W w' := by
 obtain ⟨s1, hs1⟩ : ∃ s1, s1 = (s.voteTake m).1 := ⟨_, rfl⟩
 obtain ⟨l1, hl1⟩ : ∃ l1, l1 = (s.voteTake m).2.map (·.1) := ⟨_, rfl⟩
 obtain ⟨nA, hnA⟩ : ∃ nA, nA = l1.length := ⟨_, rfl⟩
 have HNA := jd hnA
 have HT : Hid (∀ W', Bel W W' → Calls Tryz.prog 176 #[.agg (gc s x), .agg (mg m y)] W' fun e w' => ∃ x' aA cA, e = .returned (.tuple #[.agg (gc s1 x'), .slice aA nA cA, .int .i64 0]) ∧ Pg W.heap.size w' s1 x' ∧ Ms W.heap.size w' (.slice aA nA cA) l1 ∧ Bel W' w') := jd (fun W' hb => by
  have q := voteTake_g (h.bel hb) hz hm hll (hw.bel hb) hme hmm hto hkd
  have e9 : nA = (s.voteTake m).2.length := by rw [hnA, hl1, List.length_map]
  rw [e9, hs1, hl1]
  exact q.mono (fun _ _ ⟨x', aA, cA, he, hf, ho, hb'⟩ => ⟨x', aA, cA, he, hf.mono hb.size, (Ms.plain ho (vote_plain s m)).mono hb.size, hb'⟩))
 have HAd : Hid (∀ W' x', Bel W W' → Pg W.heap.size W' s1 x' → Calls Tryz.prog 142 #[.agg (gc s1 x')] W' fun e w' => ∃ x2, e = .returned (.tuple #[.agg (gc s1.advIf x2), .int .i64 0]) ∧ Pg W.heap.size w' s1.advIf x2 ∧ Bel W' w') := jd (fun W' x' hb hp => by
  rw [← hs1] at hm2 hz2
  exact (advIf_g hp.gp (hz2 x' hp.cap) hm2).mono (fun _ _ ⟨x2, he, hf, hb'⟩ => ⟨x2, he, hf.mono hb.size, hb'⟩))
 have HE : Hid (s.votesTake m = (s1.advIf, l1)) := jd (by unfold GP.votesTake; rw [← hs1, ← hl1])
 clear h hz hm hll hw hme hmm hto hkd hm2 hz2 hs1 hl1 hnA
 go_enter Tryz.func135, Tryz.ntmps135
 go_wp2_with (first
  | go_skip
  | (refine bx_boxK 31 (.tmp 0) (by exact rfl) (by exact rfl) (gc s x) (by exact rfl) ?_; intro b w0 hr0 hs0 hb0; have HR0 := jd hr0; have HB0 := jd (aI hb0 hs0); clear hr0 hs0 hb0)
  | (refine bx_boxK 87 (.tmp 1) (by exact rfl) (by exact rfl) (mg m y) (by exact rfl) ?_; intro b3 w1 hr1 hs1 hb1; have HM0 := jd (aI hr1 hs1); have HB1 := jd hb1; clear hr1 hs1 hb1)
  | (refine bx_new rfl 31 rfl _ Tryz.zeroP ?_; intro b2 w2 hr2 hs2 hb2; have HA := jd (Aq.mk0 (ju HB0).1 (ju HB0).2 (ju HR0) (ju HB1) (ju HM0).2 (ju HM0).1 hb2 hs2 hr2); clear hr2 hs2 hb2 HR0 HB0 HM0 HB1)
  | (refine bx_ldK 31 (.tmp 2) (by exact rfl) b (by exact rfl) (by exact rfl) _ _ (ju HA).row Tryz.underlying31 (zP _ _) ?_)
  | (refine bx_ldK 87 (.tmp 3) (by exact rfl) b3 (by exact rfl) (by exact rfl) _ _ (ju HA).rm Tryz.underlying87 (szM _ _) ?_)
  | (go_at_call 176; refine ((ju HT) _ (ju HA).bel).mono ?_; rintro e w3 ⟨x1, aA, cA, rfl, hf3, hm3, hb3⟩; have HF3 := jd hf3; have HMB := jd hm3; replace HA := jd ((ju HA).next hb3); clear hb3 hf3 hm3)
  | (refine bx_st rfl 31 (.tmp 2) _ rfl b (gc s1 x1) _ rfl rfl (ju HA).row (zP _ _) rfl (gc_one _ _) ?_; intro w4 hr4 hc4; replace HMB := jd ((ju HMB).box (ju HA).row hc4); have HF4 := jd ((ju HF3).box (ju HA).row hc4); have HZ := jd ((ju HA).set hr4 hc4); clear hr4 hc4 HA HF3)
  | (refine bx_ldK 31 (.tmp 2) (by exact rfl) b (by exact rfl) (by exact rfl) _ _ (ju HZ).row Tryz.underlying31 (zP _ _) ?_)
  | (go_at_call 142; refine ((ju HAd) _ _ (ju HZ).bel (ju HF4)).mono ?_; rintro e w5 ⟨x2, rfl, hf5, hb5⟩; have HF5 := jd hf5; replace HMB := jd ((ju HMB).bel hb5); replace HZ := jd ((ju HZ).next hb5); clear hb5 hf5 HF4)
  | (refine bx_st rfl 31 (.tmp 2) _ rfl b (gc s1.advIf x2) _ rfl rfl (ju HZ).row (zP _ _) rfl (gc_one _ _) ?_; intro w6 hr6 hc6; replace HMB := jd ((ju HMB).box (ju HZ).row hc6); have HF6 := jd ((ju HF5).box (ju HZ).row hc6); have HD := jd ((ju HZ).set hr6 hc6); clear hr6 hc6 HZ HF5)
  | (refine bx_ldK 31 (.tmp 2) (by exact rfl) b (by exact rfl) (by exact rfl) _ _ (ju HD).row Tryz.underlying31 (zP _ _) ?_)
  | go_guarded
  | (obtain ⟨s9, x9, h2⟩ := (ju HD).row2; refine bx_st rfl 31 (.tmp 4) _ rfl b2 (gc s1.advIf x2) _ rfl rfl h2 (zP _ _) rfl (gc_one _ _) ?_; intro w9 hr9 hc9; have HR9 := jd (aI hr9 (aI ((ju HMB).box h2 hc9) (aI ((ju HF6).box h2 hc9) (bel_off (ju HD).bel hc9 (ju HD).ge2)))); clear hr9 hc9 h2))
 rw [ju HE, ← ju HNA]
 exact bodyPost_ret (res3 (p := 4) (q := 5) (r := 6) rfl Tryz.underlying31 (zP _ _) (ju HR9).1 _ _ _ rfl rfl rfl) rfl ⟨_, _, _, rfl, (ju HR9).2.2.1, (ju HR9).2.1, (ju HR9).2.2.2⟩
section
variable {W : World} {s : GP} {x : Px} {m : GM} {y : GX}
set_option maxRecDepth 100000 in
set_option maxHeartbeats 8000000 in
theorem trimTake_led (h : Gp W s x) (hz : Gz s x) (hm : mayG s = true) (hw : Gw W m y) (hme : m.ents.length ≤ 1048576 ∧ m.mem.length ≤ 1048576 ∧ ∀ z ∈ y.ls, z.1.m.length ≤ 1048576) (hmm : mayMB m = true) (hto : m.to = s.id) (hkd : m.kind = 5) (hq : m.term = s.term ∧ s.role = 2) : Calls Tryz.prog 137 #[.agg (gc s x), .agg (mg m y)] W fun e w' => ∃ x' aA cA, e = .returned (.tuple #[.agg (gc (s.trimTake m).1 x'), .slice aA (s.trimTake m).2.length cA, .int .i64 0]) ∧ Gt w' (s.trimTake m).1 x' ∧ Lc W.heap.size x' (s.trimTake m).1.log.length ∧ Ms W.heap.size w' (.slice aA (s.trimTake m).2.length cA) (s.trimTake m).2 ∧ Bel W w' := by
 have H1 : Hid (∀ W', Bel W W' → Calls Tryz.prog 42 #[.agg (gc s x)] W' fun e w' => e = .returned (.int .i64 0) ∧ Bel W' w') := jd (fun W' hb => by have := may_g (h.bel hb) hz; rwa [hm, if_pos rfl] at this)
 have H3 : Hid (∀ W', Bel W W' → Calls Tryz.prog 177 #[.agg (mg m y)] W' fun e w' => e = .returned (.int .i64 0) ∧ Bel W' w') := jd (fun W' hb => by have := maymsg_any (hw.bel hb) hme.1 hme.2.1 hme.2.2; rwa [hmm, if_pos rfl] at this)
 have HC : Hid (∀ W', Bel W W' → Calls Tryz.prog 41 #[.agg (gc s x)] W' fun e w' => ∃ x', e = .returned (.agg (gc s x')) ∧ Gt w' s x' ∧ Lc W.heap.size x' s.log.length ∧ Bel W' w') := jd (fun W' hb => (clone_g (h.bel hb) hz.m hz.b (by have := hz.l; omega) hz.lm hz.v (by have := hz.f; omega) (by have := hz.r; omega) hz.ra).mono (fun _ _ ⟨x', he, hp, hb'⟩ => ⟨x', he, hp.gt, hp.lc.mono hb.size, hb'⟩))
 have HL : Hid (∀ W', Bel W W' → Calls Tryz.prog 79 #[.agg (gc s x)] W' fun e w' => e = .returned (.tuple #[.int .u64 s.lastI, .int .u64 s.lastT]) ∧ Bel W' w') := jd (fun W' hb => last_g (h.bel hb).l hz.base.1 (numB_base (mayG_num hm).1) (by have := hz.l; omega))
 have e1 : (m.to != s.id) = false := by simp [hto]
 have e2 : (m.kind != 5) = false := by simp [hkd]
 have e3 : decide (m.term < s.term) = false := decide_eq_false (by omega)
 have e4 : (m.term == s.term) = true := beq_iff_eq.2 hq.1
 have e5 : (s.role == 2) = true := beq_iff_eq.2 hq.2
 have HE : Hid (s.trimTake m = (s, [])) := jd (by unfold GP.trimTake; rw [if_neg (by omega), if_pos hq])
 clear h hz hm hw hme hmm hto hkd hq HL
 rw [ju HE]
 clear HE
 go_enter Tryz.func137, Tryz.ntmps137
 go_wp2_with (first
  | go_skip
  | (refine bx_boxK 31 (.tmp 0) (by exact rfl) (by exact rfl) (gc s x) (by exact rfl) ?_; intro b w0 hr0 hs0 hb0; have HR0 := jd hr0; have HB0 := jd (aI hb0 hs0); clear hr0 hs0 hb0)
  | (refine bx_boxK 87 (.tmp 1) (by exact rfl) (by exact rfl) (mg m y) (by exact rfl) ?_; intro b3 w1 hr1 hs1 hb1; have HM0 := jd (aI hr1 hs1); have HB1 := jd hb1; clear hr1 hs1 hb1)
  | (refine bx_new rfl 31 rfl _ Tryz.zeroP ?_; intro b2 w2 hr2 hs2 hb2; have HA := jd (Aq.mk0 (ju HB0).1 (ju HB0).2 (ju HR0) (ju HB1) (ju HM0).2 (ju HM0).1 hb2 hs2 hr2); clear hr2 hs2 hb2 HR0 HB0 HM0 HB1)
  | (refine bx_ldK 31 (.tmp 2) (by exact rfl) b (by exact rfl) (by exact rfl) _ _ (ju HA).row Tryz.underlying31 (zP _ _) ?_)
  | (refine bx_ldK 87 (.tmp 3) (by exact rfl) b3 (by exact rfl) (by exact rfl) _ _ (ju HA).rm Tryz.underlying87 (szM _ _) ?_)
  | (go_at_call 42; refine ((ju H1) _ (ju HA).bel).mono ?_; rintro e w3 ⟨rfl, hb3⟩; replace HA := jd ((ju HA).next hb3); clear hb3)
  | (go_at_call 177; refine ((ju H3) _ (ju HA).bel).mono ?_; rintro e w4 ⟨rfl, hb4⟩; replace HA := jd ((ju HA).next hb4); clear hb4; have y0 := (Bg.of (ju HA).row).c0; have y2 := (Bg.of (ju HA).row).c2; have y4 := (Bg.of (ju HA).row).c4; have m0 := (Mb2.of (ju HA).rm).c0; have m2 := (Mb2.of (ju HA).rm).c2; have m3 := (Mb2.of (ju HA).rm).c3; )
  | (go_at_call 41; refine ((ju HC) _ (ju HA).bel).mono ?_; rintro e w6 ⟨x6, rfl, hg6, hc6, hb6⟩; have HG6 := jd (aI hg6 hc6); replace HA := jd ((ju HA).next hb6); clear hg6 hc6 hb6)
  | go_guarded
  | (obtain ⟨s9, x9, h2⟩ := (ju HA).row2; refine bx_st rfl 31 (.tmp 4) _ rfl b2 (gc s x6) _ rfl rfl h2 (zP _ _) rfl (gc_one _ _) ?_; intro w9 hr9 hc9; have HR9 := jd (aI hr9 (aI ((ju HG6).1.box h2 hc9) (aI (ju HG6).2 (bel_off (ju HA).bel hc9 (ju HA).ge2)))); clear hr9 hc9 h2)  )
 have q := ju HR9
 exact bodyPost_ret (res3 (p := 4) (q := 5) (r := 6) rfl Tryz.underlying31 (zP _ _) q.1 _ _ _ rfl rfl rfl) rfl ⟨_, none, 0, rfl, q.2.1, q.2.2.1, Ms.nil _ _, q.2.2.2⟩
set_option maxRecDepth 100000 in
set_option maxHeartbeats 8000000 in
theorem trimTake_old (h : Gp W s x) (hz : Gz s x) (hm : mayG s = true) (hw : Gw W m y) (hme : m.ents.length ≤ 1048576 ∧ m.mem.length ≤ 1048576 ∧ ∀ z ∈ y.ls, z.1.m.length ≤ 1048576) (hmm : mayMB m = true) (hto : m.to = s.id) (hkd : m.kind = 5) (hq : m.term < s.term) : Calls Tryz.prog 137 #[.agg (gc s x), .agg (mg m y)] W fun e w' => ∃ x' aA cA, e = .returned (.tuple #[.agg (gc (s.trimTake m).1 x'), .slice aA (s.trimTake m).2.length cA, .int .i64 0]) ∧ Gt w' (s.trimTake m).1 x' ∧ Lc W.heap.size x' (s.trimTake m).1.log.length ∧ Ms W.heap.size w' (.slice aA (s.trimTake m).2.length cA) (s.trimTake m).2 ∧ Bel W w' := by
 have H1 : Hid (∀ W', Bel W W' → Calls Tryz.prog 42 #[.agg (gc s x)] W' fun e w' => e = .returned (.int .i64 0) ∧ Bel W' w') := jd (fun W' hb => by have := may_g (h.bel hb) hz; rwa [hm, if_pos rfl] at this)
 have H3 : Hid (∀ W', Bel W W' → Calls Tryz.prog 177 #[.agg (mg m y)] W' fun e w' => e = .returned (.int .i64 0) ∧ Bel W' w') := jd (fun W' hb => by have := maymsg_any (hw.bel hb) hme.1 hme.2.1 hme.2.2; rwa [hmm, if_pos rfl] at this)
 have HC : Hid (∀ W', Bel W W' → Calls Tryz.prog 41 #[.agg (gc s x)] W' fun e w' => ∃ x', e = .returned (.agg (gc s x')) ∧ Gt w' s x' ∧ Lc W.heap.size x' s.log.length ∧ Bel W' w') := jd (fun W' hb => (clone_g (h.bel hb) hz.m hz.b (by have := hz.l; omega) hz.lm hz.v (by have := hz.f; omega) (by have := hz.r; omega) hz.ra).mono (fun _ _ ⟨x', he, hp, hb'⟩ => ⟨x', he, hp.gt, hp.lc.mono hb.size, hb'⟩))
 have HL : Hid (∀ W', Bel W W' → Calls Tryz.prog 79 #[.agg (gc s x)] W' fun e w' => e = .returned (.tuple #[.int .u64 s.lastI, .int .u64 s.lastT]) ∧ Bel W' w') := jd (fun W' hb => last_g (h.bel hb).l hz.base.1 (numB_base (mayG_num hm).1) (by have := hz.l; omega))
 have e1 : (m.to != s.id) = false := by simp [hto]
 have e2 : (m.kind != 5) = false := by simp [hkd]
 have e3 : decide (m.term < s.term) = true := decide_eq_true hq
 have HE : Hid (s.trimTake m = (s, [s.heard m.frm false s.lastI 0])) := jd (by unfold GP.trimTake; rw [if_pos hq])
 clear h hz hm hw hme hmm hto hkd hq
 generalize s.lastI = li at *
 rw [ju HE]
 clear HE
 go_enter Tryz.func137, Tryz.ntmps137
 go_wp2_with (first
  | go_skip
  | (refine bx_boxK 31 (.tmp 0) (by exact rfl) (by exact rfl) (gc s x) (by exact rfl) ?_; intro b w0 hr0 hs0 hb0; have HR0 := jd hr0; have HB0 := jd (aI hb0 hs0); clear hr0 hs0 hb0)
  | (refine bx_boxK 87 (.tmp 1) (by exact rfl) (by exact rfl) (mg m y) (by exact rfl) ?_; intro b3 w1 hr1 hs1 hb1; have HM0 := jd (aI hr1 hs1); have HB1 := jd hb1; clear hr1 hs1 hb1)
  | (refine bx_new rfl 31 rfl _ Tryz.zeroP ?_; intro b2 w2 hr2 hs2 hb2; have HA := jd (Aq.mk0 (ju HB0).1 (ju HB0).2 (ju HR0) (ju HB1) (ju HM0).2 (ju HM0).1 hb2 hs2 hr2); clear hr2 hs2 hb2 HR0 HB0 HM0 HB1)
  | (refine bx_ldK 31 (.tmp 2) (by exact rfl) b (by exact rfl) (by exact rfl) _ _ (ju HA).row Tryz.underlying31 (zP _ _) ?_)
  | (refine bx_ldK 87 (.tmp 3) (by exact rfl) b3 (by exact rfl) (by exact rfl) _ _ (ju HA).rm Tryz.underlying87 (szM _ _) ?_)
  | (go_at_call 42; refine ((ju H1) _ (ju HA).bel).mono ?_; rintro e w3 ⟨rfl, hb3⟩; replace HA := jd ((ju HA).next hb3); clear hb3)
  | (go_at_call 177; refine ((ju H3) _ (ju HA).bel).mono ?_; rintro e w4 ⟨rfl, hb4⟩; replace HA := jd ((ju HA).next hb4); clear hb4; have y0 := (Bg.of (ju HA).row).c0; have y2 := (Bg.of (ju HA).row).c2; have y4 := (Bg.of (ju HA).row).c4; have m0 := (Mb2.of (ju HA).rm).c0; have m2 := (Mb2.of (ju HA).rm).c2; have m3 := (Mb2.of (ju HA).rm).c3; )
  | (go_at_call 79; refine ((ju HL) _ (ju HA).bel).mono ?_; rintro e w5 ⟨rfl, hb5⟩; replace HA := jd ((ju HA).next hb5); clear hb5; clear y0 y2 y4 m0 m2 m3; )
  | go_guarded)
 have hA := (ju HA).next (Bel.refl w5).drew
 refine wp_region_held_drew (S := fun w => w.heap[b]? = some (.cells (gc s x) 31) ∧ w.heap[b3]? = some (.cells (mg m y) 87)) Tryz.follows ⟨hA.row, hA.rm⟩ (fun hS => ?_)
 clear HA
 generalize w5.drew = wd at *
 refine any_ldP (i := 0) (b := b) rfl (by kernel_rfl) (fun _ _ _ h => h) rfl hS rfl (by go_simp) (fun w hw => hw.1) ?_
 refine any_ldP (i := 2) (b := b) rfl (by kernel_rfl) (fun _ _ _ h => h) rfl hS rfl (by go_simp) (fun w hw => hw.1) ?_
 refine any_take (i := 3) (v := .pointer (some ⟨b3, 1, none⟩)) rfl (by kernel_rfl) (fun _ _ _ h => h) rfl hS (fun w hw => by go_simp) ?_
 refine any_take (i := 4) (v := .int .i64 m.frm) rfl (by kernel_rfl) (fun _ _ _ h => h) rfl hS (fun w hw => by have := (Mb2.of hw.2).c1; go_simp) ?_
 refine any_take (i := 5) (v := .int .u64 li) rfl (by kernel_rfl) (fun _ _ _ h => h) rfl hS (fun w hw => by go_simp) ?_
 refine any_call (i := 1) (by kernel_rfl) rfl rfl (by go_simp) ((ju HC) wd hA.bel) ?_
 rintro e w6 ⟨x6, rfl, hg6, hc6, hb6⟩
 have hA6 := hA.next hb6
 refine ⟨_, rfl, ⟨hA6.row, hA6.rm⟩, ?_⟩
 refine any_call (i := 6) (by kernel_rfl) rfl rfl (by go_simp) (heard_g (W := w6) (s := s) (x := x) m.frm false li 0) ?_
 rintro e w7 ⟨aH, rfl, hoH, hb7⟩
 have hA7 := hA6.next hb7
 refine ⟨_, rfl, ⟨hA7.row, hA7.rm⟩, ?_⟩
 have hA9 := hA7
 obtain ⟨s9, x9, h2⟩ := hA9.row2
 have hch := ch_row (c' := gc s x6) h2
 have HQ := jd (aI hch.1 (aI ((hg6.bel hb7).box h2 hch.2) (aI hc6 (aI (bel_off hA9.bel hch.2 hA9.ge2) ((hoH.mono hA6.bel.size).box h2 (by decide) hch.2)))))
 have hS6 := aI (hch.2.row hA9.row hA9.ne.symm) (hch.2.row hA9.rm hA9.ne4)
 refine any_skip (i := 7) (w' := w7.setRow b2 (gc s x6)) (by kernel_rfl) rfl rfl (st_run (s := s) (z := x6) (.tmp 4) (.tmp 42) (by exact rfl) (by go_simp) (by go_simp) h2) ⟨hS6, ?_⟩
 generalize w7.setRow b2 (gc s x6) = wE at *
 refine any_do (i := 8) (v := .slice aH 1 1) (w' := wE) (by kernel_rfl) rfl rfl (by go_simp) ⟨hS6, ?_⟩
 refine any_do (i := 9) (v := .int .i64 0) (w' := wE) (by kernel_rfl) rfl rfl (by go_simp) ⟨hS6, ?_⟩
 refine wpAnyH_done (by kernel_rfl) ?_ _
 clear hch hS6 h2 hA9 hS
 simp [Act.put]
 go_wp2_with fail
 have q := ju HQ
 exact bodyPost_ret (res3 (p := 4) (q := 5) (r := 6) rfl Tryz.underlying31 (zP _ _) q.1 _ _ _ rfl rfl rfl) rfl ⟨_, aH, 1, rfl, q.2.1, q.2.2.1, Ms.plain q.2.2.2.2 (fun z hz => by rw [List.mem_singleton.1 hz]; exact ⟨rfl, rfl, rfl⟩), q.2.2.2.1⟩
theorem trimTake_any (h : Gp W s x) (hz : Gz s x) (hm : mayG s = true) (hw : Gw W m y) (hme : m.ents.length ≤ 1048576 ∧ m.mem.length ≤ 1048576 ∧ ∀ z ∈ y.ls, z.1.m.length ≤ 1048576) (hmm : mayMB m = true) (hto : m.to = s.id) (hkd : m.kind = 5) (hll : s.log.length ≤ 99999) (ht : m.term ≤ 4611686018427387904) (hi : 0 ≤ m.index ∧ m.index ≤ 4611686018427387904) : Calls Tryz.prog 137 #[.agg (gc s x), .agg (mg m y)] W fun e w' => ∃ x' aA cA, e = .returned (.tuple #[.agg (gc (s.trimTake m).1 x'), .slice aA (s.trimTake m).2.length cA, .int .i64 0]) ∧ Gt w' (s.trimTake m).1 x' ∧ Lc W.heap.size x' (s.trimTake m).1.log.length ∧ Ms W.heap.size w' (.slice aA (s.trimTake m).2.length cA) (s.trimTake m).2 ∧ Bel W w' := by
 by_cases h1 : m.term < s.term
 ·exact trimTake_old h hz hm hw hme hmm hto hkd h1
 ·by_cases h2 : m.term = s.term ∧ s.role = 2
  ·exact trimTake_led h hz hm hw hme hmm hto hkd h2
  ·exact trimTake_g h hz hm hll hw hme hmm hto hkd ht hi h1 h2
end
def GP.kept (s : GP) : GP := ⟨s.id, s.M, s.term, s.vote, 0, 0, s.base, s.baseT, s.B, s.snap, s.log, s.base, 0, s.wait, [], [], 0, []⟩
set_option maxRecDepth 100000 in
set_option maxHeartbeats 4000000 in
theorem kept_g {W : World} {s : GP} {x : Px} (h : Gp W s x) (hz : Gz s x) (hm : mayG s = true) : Calls Tryz.prog 31 #[.agg (gc s x)] W fun e w' => ∃ x', e = .returned (.agg (gc s.kept x')) ∧ Pg W.heap.size w' s.kept x' ∧ Bel W w' := by
 have H1 : Hid (∀ W', Bel W W' → Calls Tryz.prog 42 #[.agg (gc s x)] W' fun e w' => e = .returned (.int .i64 0) ∧ Bel W' w') := jd (fun W' hb => by have := may_g (h.bel hb) hz; rwa [hm, if_pos rfl] at this)
 have H2 : Hid (∀ W', Bel W W' → Calls Tryz.prog 41 #[.agg (gc s.kept (dnX x))] W' fun e w' => ∃ x', e = .returned (.agg (gc s.kept x')) ∧ Pg W.heap.size w' s.kept x' ∧ Bel W' w') := jd (fun W' hb => by
  have hp := h.bel hb
  have hk : Gp W' s.kept (dnX x) := ⟨hp.m, hp.b, hp.l, Sl.nil _ _ _, Sl.nil _ _ _, ⟨[], rfl, Sl.nil _ _ _, fun y hy => by cases hy⟩⟩
  exact (clone_g hk hz.m hz.b (by have := hz.l; show s.log.length ≤ _; omega) hz.lm (Nat.zero_le _) (Nat.zero_le _) (Nat.zero_le _) (fun r hr => by cases hr)).mono (fun _ _ ⟨x', he, hp, hb'⟩ => ⟨x', he, hp.mono hb.size, hb'⟩))
 clear h hz hm
 go_enter Tryz.func31, Tryz.ntmps31
 go_wp2_with (first
  | go_skip
  | (refine bx_boxK 31 (.tmp 0) (by exact rfl) (by exact rfl) (gc s x) (by exact rfl) ?_; intro b w0 hr0 hs0 hb0; have HR0 := jd hr0; have HB0 := jd (aI hb0 hs0); clear hr0 hs0 hb0)
  | (refine bx_new rfl 31 rfl _ Tryz.zeroP ?_; intro b2 w1 hr1 hs1 hb1; have HY : Hid (TyG W w1 b b2 s x) := jd ⟨hb1.row (ju HR0), (ju HB0).1.trans hb1, ⟨_, _, hr1⟩, by have := (ju HB0).2; omega, by have := (ju HB0).1.size; omega, fun e => by have := lt_of_some (ju HR0); omega⟩; clear hr1 hs1 hb1 HR0 HB0)
  | (refine bx_ldK 31 (.tmp 1) (by exact rfl) b (by exact rfl) (by exact rfl) (gc s x) _ (ju HY).row Tryz.underlying31 (zP _ _) ?_)
  | (go_at_call 42; refine ((ju H1) _ (ju HY).bel).mono ?_; rintro e w2 ⟨rfl, hb2⟩; replace HY := jd ((ju HY).next hb2); have y0 := (Bg.of (ju HY).row).c0; have y1 := (Bg.of (ju HY).row).c1; have y2 := (Bg.of (ju HY).row).c2; have y3 := (Bg.of (ju HY).row).c3; have y6 := (Bg.of (ju HY).row).c6; have y7 := (Bg.of (ju HY).row).c7; have y8 := (Bg.of (ju HY).row).c8; have y9 := (Bg.of (ju HY).row).c9; have y10 := (Bg.of (ju HY).row).c10; have y13 := (Bg.of (ju HY).row).c13; clear hb2)
  | (go_at_call 41; refine ((ju H2) _ (ju HY).bel).mono ?_; rintro e w3 ⟨x1, rfl, hf3, hb3⟩; have HF3 := jd hf3; replace HY := jd ((ju HY).next hb3); clear hb3 hf3)
  | go_guarded
  | (obtain ⟨s2, x2, h2⟩ := (ju HY).row2; refine bx_st rfl 31 (.tmp 2) _ rfl b2 (gc s.kept x1) _ rfl rfl h2 (zP _ _) rfl (gc_one _ _) ?_; intro w9 hr9 hc9; have HR9 := jd (aI hr9 (aI ((ju HF3).box h2 hc9) (bel_off (ju HY).bel hc9 (ju HY).ge2))); clear hr9 hc9 h2))
 exact bodyPost_ret (res1 (p := 2) rfl Tryz.underlying31 (zP _ _) (ju HR9).1 _ rfl) rfl ⟨_, rfl, (ju HR9).2.1, (ju HR9).2.2⟩
end Go.Proofs.YthekbhliokcpcaaGreat
