/- trim.Take of any member. -/
import Derived.Test.YthekbhliokcpcaaGreatT21
namespace Go.Proofs.YthekbhliokcpcaaGreat
open Go.RowKit Go.Maps Go.Sort
def GP.hears (s : GP) (m : GM) : GP := { s.down m.term with lead := m.frm, idle := 0 }
def GP.laid (s : GP) (m : GM) : GP := if (s.hears m).commit < m.index then (s.hears m).install m else s.hears m
def GP.trimTake (s : GP) (m : GM) : GP × List GM := if m.term < s.term then (s, [s.heard m.frm false s.lastI 0]) else if m.term = s.term ∧ s.role = 2 then (s, []) else (s.laid m, [(s.laid m).heard m.frm true (s.laid m).commit m.round])
theorem gt_li {W : World} {s : GP} {x : Px} (h : Gt W s x) (l i : Int) : Gt W { s with lead := l, idle := i } x := ⟨h.m, h.b, h.l, h.v, h.f, h.r⟩
set_option maxRecDepth 100000 in
set_option maxHeartbeats 8000000 in
theorem trimTake_g {W : World} {s : GP} {x : Px} {m : GM} {y : GX} (h : Gp W s x) (hz : Gz s x) (hm : mayG s = true) (hll : s.log.length ≤ 99999) (hw : Gw W m y) (hme : m.ents.length ≤ 1048576 ∧ m.mem.length ≤ 1048576 ∧ ∀ z ∈ y.ls, z.1.m.length ≤ 1048576) (hmm : mayMB m = true) (hto : m.to = s.id) (hkd : m.kind = 5) (ht : m.term ≤ 4611686018427387904) (hi : 0 ≤ m.index ∧ m.index ≤ 4611686018427387904) (hge : ¬ m.term < s.term) (hnl : ¬ (m.term = s.term ∧ s.role = 2)) : Calls Tryz.prog 137 #[.agg (gc s x), .agg (mg m y)] W fun e w' => ∃ x' aA cA, e = .returned (.tuple #[.agg (gc (s.trimTake m).1 x'), .slice aA (s.trimTake m).2.length cA, .int .i64 0]) ∧ Gt w' (s.trimTake m).1 x' ∧ Lc W.heap.size x' (s.trimTake m).1.log.length ∧ Ms W.heap.size w' (.slice aA (s.trimTake m).2.length cA) (s.trimTake m).2 ∧ Bel W w' := by
 have H1 : Hid (∀ W', Bel W W' → Calls Tryz.prog 42 #[.agg (gc s x)] W' fun e w' => e = .returned (.int .i64 0) ∧ Bel W' w') := jd (fun W' hb => by have := may_g (h.bel hb) hz; rwa [hm, if_pos rfl] at this)
 have H3 : Hid (∀ W', Bel W W' → Calls Tryz.prog 177 #[.agg (mg m y)] W' fun e w' => e = .returned (.int .i64 0) ∧ Bel W' w') := jd (fun W' hb => by have := maymsg_any (hw.bel hb) hme.1 hme.2.1 hme.2.2; rwa [hmm, if_pos rfl] at this)
 obtain ⟨u0, hu0⟩ : ∃ u0, u0 = s.down m.term := ⟨_, rfl⟩
 have H5 : Hid (∀ W', Bel W W' → Calls Tryz.prog 93 #[.agg (gc s x), .int .u64 m.term] W' fun e w' => ∃ x', e = .returned (.tuple #[.agg (gc u0 x'), .int .i64 0]) ∧ Gt w' u0 x' ∧ Lc W.heap.size x' u0.log.length ∧ Bel W' w') := jd (fun W' hb => by rw [hu0]; exact (down_g (h.bel hb) hz hm m.term ht).mono (fun _ _ ⟨x', he, hp, hb'⟩ => ⟨x', he, hp.gt, hp.lc.mono hb.size, hb'⟩))
 have e1 : (m.to != s.id) = false := by simp [hto]
 have e2 : (m.kind != 5) = false := by simp [hkd]
 have e3 : decide (m.term < s.term) = false := decide_eq_false hge
 have HE : Hid (s.trimTake m = (s.laid m, [(s.laid m).heard m.frm true (s.laid m).commit m.round])) := jd (by unfold GP.trimTake; rw [if_neg hge, if_neg hnl])
 obtain ⟨uh, huh⟩ : ∃ uh, uh = ({ u0 with lead := m.frm, idle := 0 } : GP) := ⟨_, rfl⟩
 have huh2 : uh = s.hears m := by rw [huh, hu0]; rfl
 by_cases hc : u0.commit < m.index
 ·have e5 : decide (u0.commit < m.index) = true := decide_eq_true hc
  obtain ⟨v0, hv0⟩ : ∃ v0, v0 = ({ u0 with lead := m.frm, idle := 0 } : GP).install m := ⟨_, rfl⟩
  have hla : s.laid m = v0 := by unfold GP.laid; rw [← huh2, huh, if_pos hc, hv0]
  rw [hla] at HE
  have HIn : Hid (∀ W' x', Bel W W' → Gt W' ({ u0 with lead := m.frm, idle := 0 } : GP) x' → Lc W.heap.size x' u0.log.length → Calls Tryz.prog 182 #[.agg (gc { u0 with lead := m.frm, idle := 0 } x'), .agg (mg m y)] W' fun e w' => ∃ x2, e = .returned (.agg (gc v0 x2)) ∧ Gt w' v0 x2 ∧ Lc W.heap.size x2 v0.log.length ∧ Bel W' w') := jd (fun W' x' hb hp hcap => by
   rw [hv0]
   exact (install_g hp (by rw [hu0]; exact hz.base.1) (by rw [hu0]; show s.log.length ≤ _; omega) hcap.1 (by rw [hu0]; exact hz.lm) (hw.bel hb) hi (by omega)).mono (fun e w' ⟨x2, e1, e2, e3, e4⟩ => ⟨x2, e1, e2, e3.mono hb.size, e4⟩))
  have hT : (m.term == s.term) = false ∨ ((m.term == s.term) = true ∧ (s.role == 2) = false) := by
   cases q1 : (m.term == s.term) with
   | false => exact Or.inl rfl
   | true =>
    cases q2 : (s.role == 2) with
    | false => exact Or.inr ⟨rfl, rfl⟩
    | true => exact absurd ⟨beq_iff_eq.1 q1, beq_iff_eq.1 q2⟩ hnl
  clear h hz hm hll hw hme hmm hto hkd ht hi hge hnl hu0 huh huh2 hc hv0 hla
  rw [ju HE]
  clear HE
  rcases hT with e4 | ⟨e4, e6⟩
  ·go_enter Tryz.func137, Tryz.ntmps137
   go_wp2_with (first
    | go_skip
    | (refine bx_boxK 31 (.tmp 0) (by exact rfl) (by exact rfl) (gc s x) (by exact rfl) ?_; intro b w0 hr0 hs0 hb0; have HR0 := jd hr0; have HB0 := jd (aI hb0 hs0); clear hr0 hs0 hb0)
    | (refine bx_boxK 87 (.tmp 1) (by exact rfl) (by exact rfl) (mg m y) (by exact rfl) ?_; intro b3 w1 hr1 hs1 hb1; have HM0 := jd (aI hr1 hs1); have HB1 := jd hb1; clear hr1 hs1 hb1)
    | (refine bx_new rfl 31 rfl _ Tryz.zeroP ?_; intro b2 w2 hr2 hs2 hb2; have HA := jd (Aq.mk0 (ju HB0).1 (ju HB0).2 (ju HR0) (ju HB1) (ju HM0).2 (ju HM0).1 hb2 hs2 hr2); clear hr2 hs2 hb2 HR0 HB0 HM0 HB1)
    | (refine bx_ldK 31 (.tmp 2) (by exact rfl) b (by exact rfl) (by exact rfl) _ _ (ju HA).row u31 (zP _ _) ?_)
    | (refine bx_ldK 87 (.tmp 3) (by exact rfl) b3 (by exact rfl) (by exact rfl) _ _ (ju HA).rm Tryz.underlying87 (szM _ _) ?_)
    | (go_at_call 42; refine ((ju H1) _ (ju HA).bel).mono ?_; rintro e w3 ⟨rfl, hb3⟩; replace HA := jd ((ju HA).next hb3); clear hb3)
    | (go_at_call 177; refine ((ju H3) _ (ju HA).bel).mono ?_; rintro e w4 ⟨rfl, hb4⟩; replace HA := jd ((ju HA).next hb4); clear hb4; have y0 := (Bg.of (ju HA).row).c0; have y2 := (Bg.of (ju HA).row).c2; have y4 := (Bg.of (ju HA).row).c4; have m0 := (Mb2.of (ju HA).rm).c0; have m1 := (Mb2.of (ju HA).rm).c1; have m2 := (Mb2.of (ju HA).rm).c2; have m3 := (Mb2.of (ju HA).rm).c3; have m4 := (Mb2.of (ju HA).rm).c4; )
    | (go_at_call 93; refine ((ju H5) _ (ju HA).bel).mono ?_; rintro e w5 ⟨x5, rfl, hg5, hc5, hb5⟩; have HG5 := jd (aI hg5 hc5); replace HA := jd ((ju HA).next hb5); clear hg5 hc5 hb5)
    | (refine bx_st rfl 31 (.tmp 2) _ rfl b (gc u0 x5) _ rfl rfl (ju HA).row (zP _ _) rfl (gc_one _ _) ?_; intro w6 hr6 hc6; replace HG5 := jd (aI ((ju HG5).1.box (ju HA).row hc6) (ju HG5).2); replace HA := jd ((ju HA).set hr6 hc6); have y0 := (Bg.of (ju HA).row).c0; have y2 := (Bg.of (ju HA).row).c2; have y4 := (Bg.of (ju HA).row).c4; have m0 := (Mb2.of (ju HA).rm).c0; have m1 := (Mb2.of (ju HA).rm).c1; have m2 := (Mb2.of (ju HA).rm).c2; have m3 := (Mb2.of (ju HA).rm).c3; have m4 := (Mb2.of (ju HA).rm).c4; have y11 := (Bg.of (ju HA).row).c11; clear hr6 hc6)
    | (refine gl_lead rfl _ _ rfl b _ rfl rfl (ju HA).row ?_; intro w7 hr7 hc7; replace HG5 := jd (aI ((ju HG5).1.box (ju HA).row hc7) (ju HG5).2); replace HA := jd ((ju HA).set hr7 hc7); have y0 := (Bg.of (ju HA).row).c0; have y2 := (Bg.of (ju HA).row).c2; have y4 := (Bg.of (ju HA).row).c4; have m0 := (Mb2.of (ju HA).rm).c0; have m1 := (Mb2.of (ju HA).rm).c1; have m2 := (Mb2.of (ju HA).rm).c2; have m3 := (Mb2.of (ju HA).rm).c3; have m4 := (Mb2.of (ju HA).rm).c4; have y11 := (Bg.of (ju HA).row).c11; clear hr7 hc7)
    | (refine gl_idle rfl _ _ rfl b _ rfl rfl (ju HA).row ?_; intro w8 hr8 hc8; replace HG5 := jd (aI ((ju HG5).1.box (ju HA).row hc8) (ju HG5).2); replace HA := jd ((ju HA).set hr8 hc8); have y0 := (Bg.of (ju HA).row).c0; have y2 := (Bg.of (ju HA).row).c2; have y4 := (Bg.of (ju HA).row).c4; have m0 := (Mb2.of (ju HA).rm).c0; have m1 := (Mb2.of (ju HA).rm).c1; have m2 := (Mb2.of (ju HA).rm).c2; have m3 := (Mb2.of (ju HA).rm).c3; have m4 := (Mb2.of (ju HA).rm).c4; have y11 := (Bg.of (ju HA).row).c11; clear hr8 hc8)
    | (go_at_call 182; refine ((ju HIn) _ _ (ju HA).bel (gt_li (ju HG5).1 _ _) (ju HG5).2).mono ?_; rintro e wa ⟨xa, rfl, hga, hca, hba⟩; have HGA := jd (aI hga hca); replace HA := jd ((ju HA).next hba); clear hga hca hba)
    | (refine bx_st rfl 31 (.tmp 2) _ rfl b (gc v0 xa) _ rfl rfl (ju HA).row (zP _ _) rfl (gc_one _ _) ?_; intro wb hrb hcb; replace HG5 := jd (aI ((ju HGA).1.box (ju HA).row hcb) (ju HGA).2); replace HA := jd ((ju HA).set hrb hcb); have y0 := (Bg.of (ju HA).row).c0; have y2 := (Bg.of (ju HA).row).c2; have y4 := (Bg.of (ju HA).row).c4; have m0 := (Mb2.of (ju HA).rm).c0; have m1 := (Mb2.of (ju HA).rm).c1; have m2 := (Mb2.of (ju HA).rm).c2; have m3 := (Mb2.of (ju HA).rm).c3; have m4 := (Mb2.of (ju HA).rm).c4; clear hrb hcb)
    | go_guarded)
   clear y0 y2 y4 m0 m1 m2 m3 m4
   have hA := (ju HA).next (Bel.refl wb).drew
   have hG := aI ((ju HG5).1.bel (Bel.refl wb).drew) (ju HG5).2
   refine wp_region_held_drew (S := fun w => w.heap[b]? = some (.cells (gc v0 xa) 31) ∧ w.heap[b3]? = some (.cells (mg m y) 87)) Tryz.follows ⟨hA.row, hA.rm⟩ (fun hS => ?_)
   clear HA HG5
   generalize wb.drew = wd at *
   refine any_ldP (i := 0) (b := b) rfl (by kernel_rfl) (fun _ _ _ h => h) rfl hS rfl (by go_simp) (fun w hw => hw.1) ?_
   refine any_ldP (i := 1) (b := b) rfl (by kernel_rfl) (fun _ _ _ h => h) rfl hS rfl (by go_simp) (fun w hw => hw.1) ?_
   refine any_take (i := 2) (v := .pointer (some ⟨b3, 1, none⟩)) rfl (by kernel_rfl) (fun _ _ _ h => h) rfl hS (fun w hw => by go_simp) ?_
   refine any_take (i := 3) (v := .int .i64 m.frm) rfl (by kernel_rfl) (fun _ _ _ h => h) rfl hS (fun w hw => by have := (Mb2.of hw.2).c1; go_simp) ?_
   refine any_take (i := 4) (v := .pointer (some ⟨b, 11, none⟩)) rfl (by kernel_rfl) (fun _ _ _ h => h) rfl hS (fun w hw => by go_simp) ?_
   refine any_take (i := 5) (v := .int .u64 v0.commit) rfl (by kernel_rfl) (fun _ _ _ h => h) rfl hS (fun w hw => by have := (Bg.of hw.1).c11; go_simp) ?_
   refine any_take (i := 6) (v := .pointer (some ⟨b3, 7, none⟩)) rfl (by kernel_rfl) (fun _ _ _ h => h) rfl hS (fun w hw => by go_simp) ?_
   refine any_take (i := 7) (v := .int .u64 m.round) rfl (by kernel_rfl) (fun _ _ _ h => h) rfl hS (fun w hw => by have := (Mb2.of hw.2).c7; go_simp) ?_
   refine any_call (i := 8) (by kernel_rfl) rfl rfl (by go_simp) (heard_g (W := wd) (s := v0) (x := xa) m.frm true v0.commit m.round) ?_
   rintro e w5 ⟨aH, rfl, hoH, hb5⟩
   have hS5 := aI (hb5.row hS.1) (hb5.row hS.2)
   refine ⟨_, rfl, hS5, ?_⟩
   have hA5 := hA.next hb5
   obtain ⟨s9, x9, h2⟩ := hA5.row2
   have hch := ch_row (c' := gc v0 xa) h2
   have HQ := jd (aI hch.1 (aI ((hG.1.bel hb5).box h2 hch.2) (aI hG.2 (aI (bel_off hA5.bel hch.2 hA5.ge2) ((hoH.mono hA.bel.size).box h2 (by decide) hch.2)))))
   have hS6 := aI (hch.2.row hS5.1 hA5.ne.symm) (hch.2.row hS5.2 hA5.ne4)
   refine any_skip (i := 9) (w' := w5.setRow b2 (gc v0 xa)) (by kernel_rfl) rfl rfl (st_run (s := v0) (z := xa) (.tmp 4) (.tmp 80) (by exact rfl) (by go_simp) (by go_simp) h2) ⟨hS6, ?_⟩
   generalize w5.setRow b2 (gc v0 xa) = w6 at *
   refine any_do (i := 10) (v := .slice aH 1 1) (w' := w6) (by kernel_rfl) rfl rfl (by go_simp) ⟨hS6, ?_⟩
   refine any_do (i := 11) (v := .int .i64 0) (w' := w6) (by kernel_rfl) rfl rfl (by go_simp) ⟨hS6, ?_⟩
   refine wpAnyH_done (by kernel_rfl) ?_ _
   clear hch hS6 h2 hA5 hS5 hoH hb5 hS hG hA
   simp [Act.put]
   go_wp2_with fail
   have q := ju HQ
   exact bodyPost_ret (res3 (p := 4) (q := 5) (r := 6) rfl u31 (zP _ _) q.1 _ _ _ rfl rfl rfl) rfl ⟨_, aH, 1, rfl, q.2.1, q.2.2.1, Ms.plain q.2.2.2.2 (fun z hz => by rw [List.mem_singleton.1 hz]; exact ⟨rfl, rfl, rfl⟩), q.2.2.2.1⟩
  ·go_enter Tryz.func137, Tryz.ntmps137
   go_wp2_with (first
    | go_skip
    | (refine bx_boxK 31 (.tmp 0) (by exact rfl) (by exact rfl) (gc s x) (by exact rfl) ?_; intro b w0 hr0 hs0 hb0; have HR0 := jd hr0; have HB0 := jd (aI hb0 hs0); clear hr0 hs0 hb0)
    | (refine bx_boxK 87 (.tmp 1) (by exact rfl) (by exact rfl) (mg m y) (by exact rfl) ?_; intro b3 w1 hr1 hs1 hb1; have HM0 := jd (aI hr1 hs1); have HB1 := jd hb1; clear hr1 hs1 hb1)
    | (refine bx_new rfl 31 rfl _ Tryz.zeroP ?_; intro b2 w2 hr2 hs2 hb2; have HA := jd (Aq.mk0 (ju HB0).1 (ju HB0).2 (ju HR0) (ju HB1) (ju HM0).2 (ju HM0).1 hb2 hs2 hr2); clear hr2 hs2 hb2 HR0 HB0 HM0 HB1)
    | (refine bx_ldK 31 (.tmp 2) (by exact rfl) b (by exact rfl) (by exact rfl) _ _ (ju HA).row u31 (zP _ _) ?_)
    | (refine bx_ldK 87 (.tmp 3) (by exact rfl) b3 (by exact rfl) (by exact rfl) _ _ (ju HA).rm Tryz.underlying87 (szM _ _) ?_)
    | (go_at_call 42; refine ((ju H1) _ (ju HA).bel).mono ?_; rintro e w3 ⟨rfl, hb3⟩; replace HA := jd ((ju HA).next hb3); clear hb3)
    | (go_at_call 177; refine ((ju H3) _ (ju HA).bel).mono ?_; rintro e w4 ⟨rfl, hb4⟩; replace HA := jd ((ju HA).next hb4); clear hb4; have y0 := (Bg.of (ju HA).row).c0; have y2 := (Bg.of (ju HA).row).c2; have y4 := (Bg.of (ju HA).row).c4; have m0 := (Mb2.of (ju HA).rm).c0; have m1 := (Mb2.of (ju HA).rm).c1; have m2 := (Mb2.of (ju HA).rm).c2; have m3 := (Mb2.of (ju HA).rm).c3; have m4 := (Mb2.of (ju HA).rm).c4; )
    | (go_at_call 93; refine ((ju H5) _ (ju HA).bel).mono ?_; rintro e w5 ⟨x5, rfl, hg5, hc5, hb5⟩; have HG5 := jd (aI hg5 hc5); replace HA := jd ((ju HA).next hb5); clear hg5 hc5 hb5)
    | (refine bx_st rfl 31 (.tmp 2) _ rfl b (gc u0 x5) _ rfl rfl (ju HA).row (zP _ _) rfl (gc_one _ _) ?_; intro w6 hr6 hc6; replace HG5 := jd (aI ((ju HG5).1.box (ju HA).row hc6) (ju HG5).2); replace HA := jd ((ju HA).set hr6 hc6); have y0 := (Bg.of (ju HA).row).c0; have y2 := (Bg.of (ju HA).row).c2; have y4 := (Bg.of (ju HA).row).c4; have m0 := (Mb2.of (ju HA).rm).c0; have m1 := (Mb2.of (ju HA).rm).c1; have m2 := (Mb2.of (ju HA).rm).c2; have m3 := (Mb2.of (ju HA).rm).c3; have m4 := (Mb2.of (ju HA).rm).c4; have y11 := (Bg.of (ju HA).row).c11; clear hr6 hc6)
    | (refine gl_lead rfl _ _ rfl b _ rfl rfl (ju HA).row ?_; intro w7 hr7 hc7; replace HG5 := jd (aI ((ju HG5).1.box (ju HA).row hc7) (ju HG5).2); replace HA := jd ((ju HA).set hr7 hc7); have y0 := (Bg.of (ju HA).row).c0; have y2 := (Bg.of (ju HA).row).c2; have y4 := (Bg.of (ju HA).row).c4; have m0 := (Mb2.of (ju HA).rm).c0; have m1 := (Mb2.of (ju HA).rm).c1; have m2 := (Mb2.of (ju HA).rm).c2; have m3 := (Mb2.of (ju HA).rm).c3; have m4 := (Mb2.of (ju HA).rm).c4; have y11 := (Bg.of (ju HA).row).c11; clear hr7 hc7)
    | (refine gl_idle rfl _ _ rfl b _ rfl rfl (ju HA).row ?_; intro w8 hr8 hc8; replace HG5 := jd (aI ((ju HG5).1.box (ju HA).row hc8) (ju HG5).2); replace HA := jd ((ju HA).set hr8 hc8); have y0 := (Bg.of (ju HA).row).c0; have y2 := (Bg.of (ju HA).row).c2; have y4 := (Bg.of (ju HA).row).c4; have m0 := (Mb2.of (ju HA).rm).c0; have m1 := (Mb2.of (ju HA).rm).c1; have m2 := (Mb2.of (ju HA).rm).c2; have m3 := (Mb2.of (ju HA).rm).c3; have m4 := (Mb2.of (ju HA).rm).c4; have y11 := (Bg.of (ju HA).row).c11; clear hr8 hc8)
    | (go_at_call 182; refine ((ju HIn) _ _ (ju HA).bel (gt_li (ju HG5).1 _ _) (ju HG5).2).mono ?_; rintro e wa ⟨xa, rfl, hga, hca, hba⟩; have HGA := jd (aI hga hca); replace HA := jd ((ju HA).next hba); clear hga hca hba)
    | (refine bx_st rfl 31 (.tmp 2) _ rfl b (gc v0 xa) _ rfl rfl (ju HA).row (zP _ _) rfl (gc_one _ _) ?_; intro wb hrb hcb; replace HG5 := jd (aI ((ju HGA).1.box (ju HA).row hcb) (ju HGA).2); replace HA := jd ((ju HA).set hrb hcb); have y0 := (Bg.of (ju HA).row).c0; have y2 := (Bg.of (ju HA).row).c2; have y4 := (Bg.of (ju HA).row).c4; have m0 := (Mb2.of (ju HA).rm).c0; have m1 := (Mb2.of (ju HA).rm).c1; have m2 := (Mb2.of (ju HA).rm).c2; have m3 := (Mb2.of (ju HA).rm).c3; have m4 := (Mb2.of (ju HA).rm).c4; clear hrb hcb)
    | go_guarded)
   clear y0 y2 y4 m0 m1 m2 m3 m4
   have hA := (ju HA).next (Bel.refl wb).drew
   have hG := aI ((ju HG5).1.bel (Bel.refl wb).drew) (ju HG5).2
   refine wp_region_held_drew (S := fun w => w.heap[b]? = some (.cells (gc v0 xa) 31) ∧ w.heap[b3]? = some (.cells (mg m y) 87)) Tryz.follows ⟨hA.row, hA.rm⟩ (fun hS => ?_)
   clear HA HG5
   generalize wb.drew = wd at *
   refine any_ldP (i := 0) (b := b) rfl (by kernel_rfl) (fun _ _ _ h => h) rfl hS rfl (by go_simp) (fun w hw => hw.1) ?_
   refine any_ldP (i := 1) (b := b) rfl (by kernel_rfl) (fun _ _ _ h => h) rfl hS rfl (by go_simp) (fun w hw => hw.1) ?_
   refine any_take (i := 2) (v := .pointer (some ⟨b3, 1, none⟩)) rfl (by kernel_rfl) (fun _ _ _ h => h) rfl hS (fun w hw => by go_simp) ?_
   refine any_take (i := 3) (v := .int .i64 m.frm) rfl (by kernel_rfl) (fun _ _ _ h => h) rfl hS (fun w hw => by have := (Mb2.of hw.2).c1; go_simp) ?_
   refine any_take (i := 4) (v := .pointer (some ⟨b, 11, none⟩)) rfl (by kernel_rfl) (fun _ _ _ h => h) rfl hS (fun w hw => by go_simp) ?_
   refine any_take (i := 5) (v := .int .u64 v0.commit) rfl (by kernel_rfl) (fun _ _ _ h => h) rfl hS (fun w hw => by have := (Bg.of hw.1).c11; go_simp) ?_
   refine any_take (i := 6) (v := .pointer (some ⟨b3, 7, none⟩)) rfl (by kernel_rfl) (fun _ _ _ h => h) rfl hS (fun w hw => by go_simp) ?_
   refine any_take (i := 7) (v := .int .u64 m.round) rfl (by kernel_rfl) (fun _ _ _ h => h) rfl hS (fun w hw => by have := (Mb2.of hw.2).c7; go_simp) ?_
   refine any_call (i := 8) (by kernel_rfl) rfl rfl (by go_simp) (heard_g (W := wd) (s := v0) (x := xa) m.frm true v0.commit m.round) ?_
   rintro e w5 ⟨aH, rfl, hoH, hb5⟩
   have hS5 := aI (hb5.row hS.1) (hb5.row hS.2)
   refine ⟨_, rfl, hS5, ?_⟩
   have hA5 := hA.next hb5
   obtain ⟨s9, x9, h2⟩ := hA5.row2
   have hch := ch_row (c' := gc v0 xa) h2
   have HQ := jd (aI hch.1 (aI ((hG.1.bel hb5).box h2 hch.2) (aI hG.2 (aI (bel_off hA5.bel hch.2 hA5.ge2) ((hoH.mono hA.bel.size).box h2 (by decide) hch.2)))))
   have hS6 := aI (hch.2.row hS5.1 hA5.ne.symm) (hch.2.row hS5.2 hA5.ne4)
   refine any_skip (i := 9) (w' := w5.setRow b2 (gc v0 xa)) (by kernel_rfl) rfl rfl (st_run (s := v0) (z := xa) (.tmp 4) (.tmp 80) (by exact rfl) (by go_simp) (by go_simp) h2) ⟨hS6, ?_⟩
   generalize w5.setRow b2 (gc v0 xa) = w6 at *
   refine any_do (i := 10) (v := .slice aH 1 1) (w' := w6) (by kernel_rfl) rfl rfl (by go_simp) ⟨hS6, ?_⟩
   refine any_do (i := 11) (v := .int .i64 0) (w' := w6) (by kernel_rfl) rfl rfl (by go_simp) ⟨hS6, ?_⟩
   refine wpAnyH_done (by kernel_rfl) ?_ _
   clear hch hS6 h2 hA5 hS5 hoH hb5 hS hG hA
   simp [Act.put]
   go_wp2_with fail
   have q := ju HQ
   exact bodyPost_ret (res3 (p := 4) (q := 5) (r := 6) rfl u31 (zP _ _) q.1 _ _ _ rfl rfl rfl) rfl ⟨_, aH, 1, rfl, q.2.1, q.2.2.1, Ms.plain q.2.2.2.2 (fun z hz => by rw [List.mem_singleton.1 hz]; exact ⟨rfl, rfl, rfl⟩), q.2.2.2.1⟩
 ·have e5 : decide (u0.commit < m.index) = false := decide_eq_false hc
  obtain ⟨v0, hv0⟩ : ∃ v0, v0 = ({ u0 with lead := m.frm, idle := 0 } : GP) := ⟨_, rfl⟩
  have hla : s.laid m = v0 := by unfold GP.laid; rw [← huh2, huh, if_neg hc, hv0]
  rw [hla, hv0] at HE
  have hT : (m.term == s.term) = false ∨ ((m.term == s.term) = true ∧ (s.role == 2) = false) := by
   cases q1 : (m.term == s.term) with
   | false => exact Or.inl rfl
   | true =>
    cases q2 : (s.role == 2) with
    | false => exact Or.inr ⟨rfl, rfl⟩
    | true => exact absurd ⟨beq_iff_eq.1 q1, beq_iff_eq.1 q2⟩ hnl
  clear h hz hm hll hw hme hmm hto hkd ht hi hge hnl hu0 huh huh2 hc hv0 hla
  rw [ju HE]
  clear HE
  rcases hT with e4 | ⟨e4, e6⟩
  ·go_enter Tryz.func137, Tryz.ntmps137
   go_wp2_with (first
    | go_skip
    | (refine bx_boxK 31 (.tmp 0) (by exact rfl) (by exact rfl) (gc s x) (by exact rfl) ?_; intro b w0 hr0 hs0 hb0; have HR0 := jd hr0; have HB0 := jd (aI hb0 hs0); clear hr0 hs0 hb0)
    | (refine bx_boxK 87 (.tmp 1) (by exact rfl) (by exact rfl) (mg m y) (by exact rfl) ?_; intro b3 w1 hr1 hs1 hb1; have HM0 := jd (aI hr1 hs1); have HB1 := jd hb1; clear hr1 hs1 hb1)
    | (refine bx_new rfl 31 rfl _ Tryz.zeroP ?_; intro b2 w2 hr2 hs2 hb2; have HA := jd (Aq.mk0 (ju HB0).1 (ju HB0).2 (ju HR0) (ju HB1) (ju HM0).2 (ju HM0).1 hb2 hs2 hr2); clear hr2 hs2 hb2 HR0 HB0 HM0 HB1)
    | (refine bx_ldK 31 (.tmp 2) (by exact rfl) b (by exact rfl) (by exact rfl) _ _ (ju HA).row u31 (zP _ _) ?_)
    | (refine bx_ldK 87 (.tmp 3) (by exact rfl) b3 (by exact rfl) (by exact rfl) _ _ (ju HA).rm Tryz.underlying87 (szM _ _) ?_)
    | (go_at_call 42; refine ((ju H1) _ (ju HA).bel).mono ?_; rintro e w3 ⟨rfl, hb3⟩; replace HA := jd ((ju HA).next hb3); clear hb3)
    | (go_at_call 177; refine ((ju H3) _ (ju HA).bel).mono ?_; rintro e w4 ⟨rfl, hb4⟩; replace HA := jd ((ju HA).next hb4); clear hb4; have y0 := (Bg.of (ju HA).row).c0; have y2 := (Bg.of (ju HA).row).c2; have y4 := (Bg.of (ju HA).row).c4; have m0 := (Mb2.of (ju HA).rm).c0; have m1 := (Mb2.of (ju HA).rm).c1; have m2 := (Mb2.of (ju HA).rm).c2; have m3 := (Mb2.of (ju HA).rm).c3; have m4 := (Mb2.of (ju HA).rm).c4; )
    | (go_at_call 93; refine ((ju H5) _ (ju HA).bel).mono ?_; rintro e w5 ⟨x5, rfl, hg5, hc5, hb5⟩; have HG5 := jd (aI hg5 hc5); replace HA := jd ((ju HA).next hb5); clear hg5 hc5 hb5)
    | (refine bx_st rfl 31 (.tmp 2) _ rfl b (gc u0 x5) _ rfl rfl (ju HA).row (zP _ _) rfl (gc_one _ _) ?_; intro w6 hr6 hc6; replace HG5 := jd (aI ((ju HG5).1.box (ju HA).row hc6) (ju HG5).2); replace HA := jd ((ju HA).set hr6 hc6); have y0 := (Bg.of (ju HA).row).c0; have y2 := (Bg.of (ju HA).row).c2; have y4 := (Bg.of (ju HA).row).c4; have m0 := (Mb2.of (ju HA).rm).c0; have m1 := (Mb2.of (ju HA).rm).c1; have m2 := (Mb2.of (ju HA).rm).c2; have m3 := (Mb2.of (ju HA).rm).c3; have m4 := (Mb2.of (ju HA).rm).c4; have y11 := (Bg.of (ju HA).row).c11; clear hr6 hc6)
    | (refine gl_lead rfl _ _ rfl b _ rfl rfl (ju HA).row ?_; intro w7 hr7 hc7; replace HG5 := jd (aI ((ju HG5).1.box (ju HA).row hc7) (ju HG5).2); replace HA := jd ((ju HA).set hr7 hc7); have y0 := (Bg.of (ju HA).row).c0; have y2 := (Bg.of (ju HA).row).c2; have y4 := (Bg.of (ju HA).row).c4; have m0 := (Mb2.of (ju HA).rm).c0; have m1 := (Mb2.of (ju HA).rm).c1; have m2 := (Mb2.of (ju HA).rm).c2; have m3 := (Mb2.of (ju HA).rm).c3; have m4 := (Mb2.of (ju HA).rm).c4; have y11 := (Bg.of (ju HA).row).c11; clear hr7 hc7)
    | (refine gl_idle rfl _ _ rfl b _ rfl rfl (ju HA).row ?_; intro w8 hr8 hc8; replace HG5 := jd (aI ((ju HG5).1.box (ju HA).row hc8) (ju HG5).2); replace HA := jd ((ju HA).set hr8 hc8); have y0 := (Bg.of (ju HA).row).c0; have y2 := (Bg.of (ju HA).row).c2; have y4 := (Bg.of (ju HA).row).c4; have m0 := (Mb2.of (ju HA).rm).c0; have m1 := (Mb2.of (ju HA).rm).c1; have m2 := (Mb2.of (ju HA).rm).c2; have m3 := (Mb2.of (ju HA).rm).c3; have m4 := (Mb2.of (ju HA).rm).c4; have y11 := (Bg.of (ju HA).row).c11; clear hr8 hc8)
    | go_guarded)
   clear y0 y2 y4 m0 m1 m2 m3 m4
   have hA := (ju HA).next (Bel.refl w8).drew
   have hG := aI ((ju HG5).1.bel (Bel.refl w8).drew) (ju HG5).2
   refine wp_region_held_drew (S := fun w => w.heap[b]? = some (.cells (gc ({ u0 with lead := m.frm, idle := 0 } : GP) x5) 31) ∧ w.heap[b3]? = some (.cells (mg m y) 87)) Tryz.follows ⟨hA.row, hA.rm⟩ (fun hS => ?_)
   clear HA HG5
   generalize w8.drew = wd at *
   refine any_ldP (i := 0) (b := b) rfl (by kernel_rfl) (fun _ _ _ h => h) rfl hS rfl (by go_simp) (fun w hw => hw.1) ?_
   refine any_ldP (i := 1) (b := b) rfl (by kernel_rfl) (fun _ _ _ h => h) rfl hS rfl (by go_simp) (fun w hw => hw.1) ?_
   refine any_take (i := 2) (v := .pointer (some ⟨b3, 1, none⟩)) rfl (by kernel_rfl) (fun _ _ _ h => h) rfl hS (fun w hw => by go_simp) ?_
   refine any_take (i := 3) (v := .int .i64 m.frm) rfl (by kernel_rfl) (fun _ _ _ h => h) rfl hS (fun w hw => by have := (Mb2.of hw.2).c1; go_simp) ?_
   refine any_take (i := 4) (v := .pointer (some ⟨b, 11, none⟩)) rfl (by kernel_rfl) (fun _ _ _ h => h) rfl hS (fun w hw => by go_simp) ?_
   refine any_take (i := 5) (v := .int .u64 ({ u0 with lead := m.frm, idle := 0 } : GP).commit) rfl (by kernel_rfl) (fun _ _ _ h => h) rfl hS (fun w hw => by have := (Bg.of hw.1).c11; go_simp) ?_
   refine any_take (i := 6) (v := .pointer (some ⟨b3, 7, none⟩)) rfl (by kernel_rfl) (fun _ _ _ h => h) rfl hS (fun w hw => by go_simp) ?_
   refine any_take (i := 7) (v := .int .u64 m.round) rfl (by kernel_rfl) (fun _ _ _ h => h) rfl hS (fun w hw => by have := (Mb2.of hw.2).c7; go_simp) ?_
   refine any_call (i := 8) (by kernel_rfl) rfl rfl (by go_simp) (heard_g (W := wd) (s := ({ u0 with lead := m.frm, idle := 0 } : GP)) (x := x5) m.frm true ({ u0 with lead := m.frm, idle := 0 } : GP).commit m.round) ?_
   rintro e w5 ⟨aH, rfl, hoH, hb5⟩
   have hS5 := aI (hb5.row hS.1) (hb5.row hS.2)
   refine ⟨_, rfl, hS5, ?_⟩
   have hA5 := hA.next hb5
   obtain ⟨s9, x9, h2⟩ := hA5.row2
   have hch := ch_row (c' := gc ({ u0 with lead := m.frm, idle := 0 } : GP) x5) h2
   have HQ := jd (aI hch.1 (aI ((hG.1.bel hb5).box h2 hch.2) (aI hG.2 (aI (bel_off hA5.bel hch.2 hA5.ge2) ((hoH.mono hA.bel.size).box h2 (by decide) hch.2)))))
   have hS6 := aI (hch.2.row hS5.1 hA5.ne.symm) (hch.2.row hS5.2 hA5.ne4)
   refine any_skip (i := 9) (w' := w5.setRow b2 (gc ({ u0 with lead := m.frm, idle := 0 } : GP) x5)) (by kernel_rfl) rfl rfl (st_run (s := ({ u0 with lead := m.frm, idle := 0 } : GP)) (z := x5) (.tmp 4) (.tmp 80) (by exact rfl) (by go_simp) (by go_simp) h2) ⟨hS6, ?_⟩
   generalize w5.setRow b2 (gc ({ u0 with lead := m.frm, idle := 0 } : GP) x5) = w6 at *
   refine any_do (i := 10) (v := .slice aH 1 1) (w' := w6) (by kernel_rfl) rfl rfl (by go_simp) ⟨hS6, ?_⟩
   refine any_do (i := 11) (v := .int .i64 0) (w' := w6) (by kernel_rfl) rfl rfl (by go_simp) ⟨hS6, ?_⟩
   refine wpAnyH_done (by kernel_rfl) ?_ _
   clear hch hS6 h2 hA5 hS5 hoH hb5 hS hG hA
   simp [Act.put]
   go_wp2_with fail
   have q := ju HQ
   exact bodyPost_ret (res3 (p := 4) (q := 5) (r := 6) rfl u31 (zP _ _) q.1 _ _ _ rfl rfl rfl) rfl ⟨_, aH, 1, rfl, gt_li q.2.1 _ _, q.2.2.1, Ms.plain q.2.2.2.2 (fun z hz => by rw [List.mem_singleton.1 hz]; exact ⟨rfl, rfl, rfl⟩), q.2.2.2.1⟩
  ·go_enter Tryz.func137, Tryz.ntmps137
   go_wp2_with (first
    | go_skip
    | (refine bx_boxK 31 (.tmp 0) (by exact rfl) (by exact rfl) (gc s x) (by exact rfl) ?_; intro b w0 hr0 hs0 hb0; have HR0 := jd hr0; have HB0 := jd (aI hb0 hs0); clear hr0 hs0 hb0)
    | (refine bx_boxK 87 (.tmp 1) (by exact rfl) (by exact rfl) (mg m y) (by exact rfl) ?_; intro b3 w1 hr1 hs1 hb1; have HM0 := jd (aI hr1 hs1); have HB1 := jd hb1; clear hr1 hs1 hb1)
    | (refine bx_new rfl 31 rfl _ Tryz.zeroP ?_; intro b2 w2 hr2 hs2 hb2; have HA := jd (Aq.mk0 (ju HB0).1 (ju HB0).2 (ju HR0) (ju HB1) (ju HM0).2 (ju HM0).1 hb2 hs2 hr2); clear hr2 hs2 hb2 HR0 HB0 HM0 HB1)
    | (refine bx_ldK 31 (.tmp 2) (by exact rfl) b (by exact rfl) (by exact rfl) _ _ (ju HA).row u31 (zP _ _) ?_)
    | (refine bx_ldK 87 (.tmp 3) (by exact rfl) b3 (by exact rfl) (by exact rfl) _ _ (ju HA).rm Tryz.underlying87 (szM _ _) ?_)
    | (go_at_call 42; refine ((ju H1) _ (ju HA).bel).mono ?_; rintro e w3 ⟨rfl, hb3⟩; replace HA := jd ((ju HA).next hb3); clear hb3)
    | (go_at_call 177; refine ((ju H3) _ (ju HA).bel).mono ?_; rintro e w4 ⟨rfl, hb4⟩; replace HA := jd ((ju HA).next hb4); clear hb4; have y0 := (Bg.of (ju HA).row).c0; have y2 := (Bg.of (ju HA).row).c2; have y4 := (Bg.of (ju HA).row).c4; have m0 := (Mb2.of (ju HA).rm).c0; have m1 := (Mb2.of (ju HA).rm).c1; have m2 := (Mb2.of (ju HA).rm).c2; have m3 := (Mb2.of (ju HA).rm).c3; have m4 := (Mb2.of (ju HA).rm).c4; )
    | (go_at_call 93; refine ((ju H5) _ (ju HA).bel).mono ?_; rintro e w5 ⟨x5, rfl, hg5, hc5, hb5⟩; have HG5 := jd (aI hg5 hc5); replace HA := jd ((ju HA).next hb5); clear hg5 hc5 hb5)
    | (refine bx_st rfl 31 (.tmp 2) _ rfl b (gc u0 x5) _ rfl rfl (ju HA).row (zP _ _) rfl (gc_one _ _) ?_; intro w6 hr6 hc6; replace HG5 := jd (aI ((ju HG5).1.box (ju HA).row hc6) (ju HG5).2); replace HA := jd ((ju HA).set hr6 hc6); have y0 := (Bg.of (ju HA).row).c0; have y2 := (Bg.of (ju HA).row).c2; have y4 := (Bg.of (ju HA).row).c4; have m0 := (Mb2.of (ju HA).rm).c0; have m1 := (Mb2.of (ju HA).rm).c1; have m2 := (Mb2.of (ju HA).rm).c2; have m3 := (Mb2.of (ju HA).rm).c3; have m4 := (Mb2.of (ju HA).rm).c4; have y11 := (Bg.of (ju HA).row).c11; clear hr6 hc6)
    | (refine gl_lead rfl _ _ rfl b _ rfl rfl (ju HA).row ?_; intro w7 hr7 hc7; replace HG5 := jd (aI ((ju HG5).1.box (ju HA).row hc7) (ju HG5).2); replace HA := jd ((ju HA).set hr7 hc7); have y0 := (Bg.of (ju HA).row).c0; have y2 := (Bg.of (ju HA).row).c2; have y4 := (Bg.of (ju HA).row).c4; have m0 := (Mb2.of (ju HA).rm).c0; have m1 := (Mb2.of (ju HA).rm).c1; have m2 := (Mb2.of (ju HA).rm).c2; have m3 := (Mb2.of (ju HA).rm).c3; have m4 := (Mb2.of (ju HA).rm).c4; have y11 := (Bg.of (ju HA).row).c11; clear hr7 hc7)
    | (refine gl_idle rfl _ _ rfl b _ rfl rfl (ju HA).row ?_; intro w8 hr8 hc8; replace HG5 := jd (aI ((ju HG5).1.box (ju HA).row hc8) (ju HG5).2); replace HA := jd ((ju HA).set hr8 hc8); have y0 := (Bg.of (ju HA).row).c0; have y2 := (Bg.of (ju HA).row).c2; have y4 := (Bg.of (ju HA).row).c4; have m0 := (Mb2.of (ju HA).rm).c0; have m1 := (Mb2.of (ju HA).rm).c1; have m2 := (Mb2.of (ju HA).rm).c2; have m3 := (Mb2.of (ju HA).rm).c3; have m4 := (Mb2.of (ju HA).rm).c4; have y11 := (Bg.of (ju HA).row).c11; clear hr8 hc8)
    | go_guarded)
   clear y0 y2 y4 m0 m1 m2 m3 m4
   have hA := (ju HA).next (Bel.refl w8).drew
   have hG := aI ((ju HG5).1.bel (Bel.refl w8).drew) (ju HG5).2
   refine wp_region_held_drew (S := fun w => w.heap[b]? = some (.cells (gc ({ u0 with lead := m.frm, idle := 0 } : GP) x5) 31) ∧ w.heap[b3]? = some (.cells (mg m y) 87)) Tryz.follows ⟨hA.row, hA.rm⟩ (fun hS => ?_)
   clear HA HG5
   generalize w8.drew = wd at *
   refine any_ldP (i := 0) (b := b) rfl (by kernel_rfl) (fun _ _ _ h => h) rfl hS rfl (by go_simp) (fun w hw => hw.1) ?_
   refine any_ldP (i := 1) (b := b) rfl (by kernel_rfl) (fun _ _ _ h => h) rfl hS rfl (by go_simp) (fun w hw => hw.1) ?_
   refine any_take (i := 2) (v := .pointer (some ⟨b3, 1, none⟩)) rfl (by kernel_rfl) (fun _ _ _ h => h) rfl hS (fun w hw => by go_simp) ?_
   refine any_take (i := 3) (v := .int .i64 m.frm) rfl (by kernel_rfl) (fun _ _ _ h => h) rfl hS (fun w hw => by have := (Mb2.of hw.2).c1; go_simp) ?_
   refine any_take (i := 4) (v := .pointer (some ⟨b, 11, none⟩)) rfl (by kernel_rfl) (fun _ _ _ h => h) rfl hS (fun w hw => by go_simp) ?_
   refine any_take (i := 5) (v := .int .u64 ({ u0 with lead := m.frm, idle := 0 } : GP).commit) rfl (by kernel_rfl) (fun _ _ _ h => h) rfl hS (fun w hw => by have := (Bg.of hw.1).c11; go_simp) ?_
   refine any_take (i := 6) (v := .pointer (some ⟨b3, 7, none⟩)) rfl (by kernel_rfl) (fun _ _ _ h => h) rfl hS (fun w hw => by go_simp) ?_
   refine any_take (i := 7) (v := .int .u64 m.round) rfl (by kernel_rfl) (fun _ _ _ h => h) rfl hS (fun w hw => by have := (Mb2.of hw.2).c7; go_simp) ?_
   refine any_call (i := 8) (by kernel_rfl) rfl rfl (by go_simp) (heard_g (W := wd) (s := ({ u0 with lead := m.frm, idle := 0 } : GP)) (x := x5) m.frm true ({ u0 with lead := m.frm, idle := 0 } : GP).commit m.round) ?_
   rintro e w5 ⟨aH, rfl, hoH, hb5⟩
   have hS5 := aI (hb5.row hS.1) (hb5.row hS.2)
   refine ⟨_, rfl, hS5, ?_⟩
   have hA5 := hA.next hb5
   obtain ⟨s9, x9, h2⟩ := hA5.row2
   have hch := ch_row (c' := gc ({ u0 with lead := m.frm, idle := 0 } : GP) x5) h2
   have HQ := jd (aI hch.1 (aI ((hG.1.bel hb5).box h2 hch.2) (aI hG.2 (aI (bel_off hA5.bel hch.2 hA5.ge2) ((hoH.mono hA.bel.size).box h2 (by decide) hch.2)))))
   have hS6 := aI (hch.2.row hS5.1 hA5.ne.symm) (hch.2.row hS5.2 hA5.ne4)
   refine any_skip (i := 9) (w' := w5.setRow b2 (gc ({ u0 with lead := m.frm, idle := 0 } : GP) x5)) (by kernel_rfl) rfl rfl (st_run (s := ({ u0 with lead := m.frm, idle := 0 } : GP)) (z := x5) (.tmp 4) (.tmp 80) (by exact rfl) (by go_simp) (by go_simp) h2) ⟨hS6, ?_⟩
   generalize w5.setRow b2 (gc ({ u0 with lead := m.frm, idle := 0 } : GP) x5) = w6 at *
   refine any_do (i := 10) (v := .slice aH 1 1) (w' := w6) (by kernel_rfl) rfl rfl (by go_simp) ⟨hS6, ?_⟩
   refine any_do (i := 11) (v := .int .i64 0) (w' := w6) (by kernel_rfl) rfl rfl (by go_simp) ⟨hS6, ?_⟩
   refine wpAnyH_done (by kernel_rfl) ?_ _
   clear hch hS6 h2 hA5 hS5 hoH hb5 hS hG hA
   simp [Act.put]
   go_wp2_with fail
   have q := ju HQ
   exact bodyPost_ret (res3 (p := 4) (q := 5) (r := 6) rfl u31 (zP _ _) q.1 _ _ _ rfl rfl rfl) rfl ⟨_, aH, 1, rfl, gt_li q.2.1 _ _, q.2.2.1, Ms.plain q.2.2.2.2 (fun z hz => by rw [List.mem_singleton.1 hz]; exact ⟨rfl, rfl, rfl⟩), q.2.2.2.1⟩
end Go.Proofs.YthekbhliokcpcaaGreat
namespace Go.Proofs.YthekbhliokcpcaaGreat
def mtG (s : GP) (bh : Int) : List GE → Nat
 | [] => 0
 | e :: l => if s.tAt (bh + 1) = some e.t then mtG s (bh + 1) l + 1 else 0
def GP.withL (s : GP) (L : List GE) : GP := { s with log := L, M := memOf s.B L }
def GP.joinL (s : GP) (bh : Int) (l : List GE) : List GE := s.log.take (bh + mtG s bh l - s.base).toNat ++ l.drop (mtG s bh l)
def GP.join (s : GP) (bh : Int) (l : List GE) : Option GP :=
 match l[mtG s bh l]? with
 | none => some s
 | some e => if bh + mtG s bh l + 1 ≤ s.commit ∨ e.t < s.baseT then none else some (s.withL (s.joinL bh l))
def GP.joined (s : GP) (m : GM) (bh : Int) (rest : List GE) : GP × List GM :=
 match s.join bh rest with
 | none => (s, [])
 | some u => ({ u with commit := max u.commit (min m.commit (bh + rest.length)) }, [s.heard m.frm true (bh + rest.length) m.round])
def GP.restOf (s : GP) (m : GM) : List GE := m.ents.drop (min (s.base - m.index).toNat m.ents.length)
def GP.layTo (s : GP) (m : GM) : GP × List GM :=
 if m.index < s.base then s.joined m s.base (s.restOf m)
 else if s.tAt m.index = some m.lterm then s.joined m m.index m.ents
 else (s, [s.heard m.frm false (min s.lastI (m.index - 1)) m.round])
def GP.takeLay (s : GP) (m : GM) : GP × List GM :=
 if m.term < s.term then (s, [s.heard m.frm false s.lastI 0]) else if s.role = 2 then (s, []) else (s.hears m).layTo m
def GP.setF (s : GP) (f : Int × Int × Int) : GP := { s with fol := s.fol.map fun g => if g.1 = f.1 then f else g }
def GP.takeHeard (s : GP) (m : GM) : GP × List GM :=
 if m.term = s.term then
  match s.fol.find? (fun g => g.1 == m.frm) with
  | none => (s, [])
  | some f => if m.ok then
    (let mm := max f.2.2 (min m.index s.lastI)
    ((s.setF (f.1, mm + 1, mm)).adv, if s.lastI < mm + 1 then [] else [(s.setF (f.1, mm + 1, mm)).adv.snd (f.1, mm + 1, mm)]))
   else
    (let nx := max (f.2.2 + 1) (min (f.2.1 - 1) (m.index + 1))
    (s.setF (f.1, nx, f.2.2), [(s.setF (f.1, nx, f.2.2)).snd (f.1, nx, f.2.2)]))
 else (s, [])
def GP.ltake (s : GP) (m : GM) : GP × List GM := if m.kind = 3 then (s.raise m.term).takeLay m else (s.raise m.term).takeHeard m
end Go.Proofs.YthekbhliokcpcaaGreat
