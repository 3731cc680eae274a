/- answerAsk, of any member. campaign of any member. New. Propose. vote.New of any members. alive of the law of seats: a group of one that gets a second member. alive of the law of seats. Two majorities of members ahead and behind one change share one: plain. tesseraref10.Has. SeatsCommon's walk. -/
import Derived.Test.YthekbhliokcpcaaGreatT10
import Derived.Test.YthekbhliokcpcaaGreatT13
import Derived.Test.YthekbhliokcpcaaGreatT11
import Derived.Test.YthekbhliokcpcaaGreatT12
import Derived.Test.YthekbhliokcpcaaGreatT04
namespace Go.Proofs.YthekbhliokcpcaaGreat
open Go.RowKit Go.Maps Go.Sort
def GP.tell (s : GP) (m : GM) (ok : Bool) : GM := ⟨2, s.id, m.frm, s.term, 0, 0, 0, 0, ok, [], [], ⟨#[]⟩⟩
def GP.ask (s : GP) (m : GM) : GP × List (GM × GX) := if s.grants m then ({ s with vote := m.frm, idle := 0 }, [(s.tell m true, gzx)]) else (s, [(s.tell m false, gzx)])
section
variable {ops : Array Oper} {Q : Exit → Act → World → Prop} {md : Region.Mode} {S : World → Prop} {i j : Nat} {o o' : Oper} {fuel : Nat} {listed : Array Bool} {a : Act} {w : World}
theorem any_two {vi : Value} {wi wj : World} (hr : Region.ready md ops listed = [i, j]) (hi : ops[i]? = some o) (hj : ops[j]? = some o') (hwi : Region.wanted o (yielded ops a.tmps) = true) (hwj : Region.wanted o' (yielded ops a.tmps) = true) (hi2 : (execOp a.eval o).run Tryz.prog w = .ok (.value vi) wi) (hj2 : (execOp a.eval o').run Tryz.prog w = .ok .skip wj)
  (hKi : S wi ∧ wpAnyH Tryz.prog md ops Q S fuel (listed.setIfInBounds i true) (a.put o.dst vi) wi) (hKj : S wj ∧ wpAnyH Tryz.prog md ops Q S fuel (listed.setIfInBounds j true) (a.put o'.dst undef) wj) : wpAnyH Tryz.prog md ops Q S (fuel + 1) listed a w := by
 refine wpAnyH_all hr (by simp) (fun k hk => ?_)
 rcases List.mem_cons.1 hk with rfl | hk
 ·unfold wpOp
  simp only [hi, hwi, if_true, Oper.wp, hi2, Oper.upon_value]
  exact .inl hKi
 ·rw [List.mem_singleton.1 hk]
  unfold wpOp
  simp only [hj, hwj, if_true, Oper.wp, hj2, Oper.upon_skip]
  exact .inl hKj
theorem any_skip {w' : World} (hr : Region.ready md ops listed = [i]) (hi : ops[i]? = some o) (hw : Region.wanted o (yielded ops a.tmps) = true) (hrun : (execOp a.eval o).run Tryz.prog w = .ok .skip w')
  (hK : S w' ∧ wpAnyH Tryz.prog md ops Q S fuel (listed.setIfInBounds i true) (a.put o.dst undef) w') : wpAnyH Tryz.prog md ops Q S (fuel + 1) listed a w := by
 refine wpAnyH_all hr (by simp) (fun j hj => ?_)
 rw [List.mem_singleton.1 hj]
 unfold wpOp
 simp only [hi, hw, if_true, Oper.wp, hrun, Oper.upon_skip]
 exact .inl hK
theorem st_run {s s2 : GP} {z z2 : Px} {b : Nat} (x y : Operand) (ho : o.op = .store 31 x y) (hx : a.eval x = .pointer (some ⟨b, 0, none⟩)) (hy : a.eval y = .agg (gc s z)) (hg : w.heap[b]? = some (.cells (gc s2 z2) 31)) : (execOp a.eval o).run Tryz.prog w = .ok .skip (w.setRow b (gc s z)) := by
 unfold execOp
 simp only [ho, hx, hy, Instr.storeAt, Instr.sureAddr, Sem.run_bind, Sem.run_pure, Result.andThen_ok, run_storeVar_row w b 31 31 _ _ hg (zP s z) rfl (gc_one s z)]
end
structure Az (base : Nat) (W w : World) (b b2 b3 : Nat) (s : GP) (x : Px) (m : GM) (y : GX) : Prop where
 row : w.heap[b]? = some (.cells (gc s x) 31)
 rm : w.heap[b3]? = some (.cells (mg m y) 87)
 row2 : ∃ s2 x2, w.heap[b2]? = some (.cells (gc s2 x2) 31)
 pf : Pg base w s x
 bel : Bel W w
 ge : W.heap.size ≤ b
 ge2 : W.heap.size ≤ b2
 ne : b2 ≠ b
 ne3 : b3 ≠ b
 ne4 : b3 ≠ b2
theorem Az.next {base : Nat} {W w w' : World} {b b2 b3 : Nat} {s : GP} {x : Px} {m : GM} {y : GX} (h : Az base W w b b2 b3 s x m y) (hb : Bel w w') : Az base W w' b b2 b3 s x m y := by
 obtain ⟨s2, x2, h2⟩ := h.row2
 exact ⟨hb.row h.row, hb.row h.rm, ⟨s2, x2, hb.row h2⟩, h.pf.bel hb, h.bel.trans hb, h.ge, h.ge2, h.ne, h.ne3, h.ne4⟩
theorem Az.set {base : Nat} {W w w' : World} {b b2 b3 : Nat} {s s' : GP} {x : Px} {m : GM} {y : GX} (h : Az base W w b b2 b3 s x m y) (h1 : w'.heap[b]? = some (.cells (gc s' x) 31)) (hc : Ch (fun i => i = b) w w') (e1 : s'.log = s.log) (e2 : s'.votes = s.votes) (e3 : s'.fol = s.fol) (e4 : s'.M = s.M) (e5 : s'.B = s.B) (e6 : s'.reads = s.reads) : Az base W w' b b2 b3 s' x m y := by
 obtain ⟨s2, x2, h2⟩ := h.row2
 have p := h.pf.box h.row hc
 exact ⟨h1, hc.row h.rm h.ne3, ⟨s2, x2, hc.row h2 h.ne⟩, ⟨by rw [e4]; exact p.m, by rw [e5]; exact p.b, by rw [e1]; exact p.l, by rw [e2]; exact p.v, by rw [e3]; exact p.f, by rw [e6]; exact p.r, by rw [e2, e4, e5]; exact p.dv⟩, bel_off h.bel hc h.ge, h.ge, h.ge2, h.ne, h.ne3, h.ne4⟩
theorem Az.out {base : Nat} {W w : World} {b b2 b3 : Nat} {s : GP} {x : Px} {m : GM} {y : GX} (h : Az base W w b b2 b3 s x m y) {s2 : GP} {x2 : Px} (h2 : w.heap[b2]? = some (.cells (gc s2 x2) 31)) : (w.setRow b2 (gc s x)).heap[b2]? = some (.cells (gc s x) 31) ∧ Pg base (w.setRow b2 (gc s x)) s x ∧ Bel W (w.setRow b2 (gc s x)) :=
 ⟨(ch_row h2).1, h.pf.box h2 (ch_row h2).2, bel_off h.bel (ch_row h2).2 h.ge2⟩
theorem Az.mk0 {base : Nat} {W w0 w1 w2 : World} {b b2 b3 : Nat} {s : GP} {x : Px} {m : GM} {y : GX} {s2 : GP} {x2 : Px} (h : Pg base W s x) (hb0 : Bel W w0) (hs0 : W.heap.size = b) (hr0 : w0.heap[b]? = some (.cells (gc s x) 31)) (hb1 : Bel w0 w1) (hs1 : w0.heap.size = b3) (hr1 : w1.heap[b3]? = some (.cells (mg m y) 87)) (hb2 : Bel w1 w2) (hs2 : w1.heap.size = b2) (hr2 : w2.heap[b2]? = some (.cells (gc s2 x2) 31)) : Az base W w2 b b2 b3 s x m y := by
 have l0 := lt_of_some hr0
 have l1 := lt_of_some hr1
 have l2 := hb1.size
 have l3 := hb0.size
 exact ⟨hb2.row (hb1.row hr0), hb2.row hr1, ⟨_, _, hr2⟩, h.bel ((hb0.trans hb1).trans hb2), (hb0.trans hb1).trans hb2, by omega, by omega, by omega, by omega, by omega⟩
set_option maxRecDepth 100000 in
set_option maxHeartbeats 4000000 in
theorem ask_g {base : Nat} {W : World} {s : GP} {x : Px} {m : GM} {y : GX} (h : Pg base W s x) (hB : base ≤ W.heap.size) (h0 : 0 ≤ s.base) (h1 : s.base ≤ 4611686018427387904) (hl : s.log.length ≤ 1000000) : Calls Tryz.prog 237 #[.agg (gc s x), .agg (mg m y)] W fun e w' => ∃ aA cA, e = .returned (.tuple #[.agg (gc (s.ask m).1 x), .slice aA (s.ask m).2.length cA]) ∧ Pg base w' (s.ask m).1 x ∧ EMg.O W.heap.size w' (.slice aA (s.ask m).2.length cA) (s.ask m).2 ∧ Bel W w' := by
 have H1 : Hid (∀ W', Bel W W' → Calls Tryz.prog 245 #[.agg (gc s x), .agg (mg m y)] W' fun e w' => e = .returned (.bool (s.grants m)) ∧ Bel W' w') := jd (fun W' hb => grants_g (h.gp.l.bel hb) h0 h1 hl)
 have HP := jd h
 have HBS := jd hB
 have HT : Hid (s.ask m = if s.grants m then ({ s with vote := m.frm, idle := 0 }, [(s.tell m true, gzx)]) else (s, [(s.tell m false, gzx)])) := jd (by rfl)
 clear h hB hl h0 h1
 generalize s.ask m = r at *
 generalize hgr : s.grants m = gr at *
 clear hgr
 cases gr
 ·go_enter Tryz.func237, Tryz.ntmps237
  go_wp2_with (first
   | go_skip
   | go_guarded
   | (refine bx_boxK 31 (.tmp 0) (by exact rfl) (by exact rfl) (gc s x) (by exact rfl) ?_; intro b w0 hr0 hs0 hb0; have HR0 := jd hr0; have HB0 := jd (aI hb0 hs0); clear hr0 hs0 hb0)
   | (refine bx_boxK 87 (.tmp 1) (by exact rfl) (by exact rfl) (mg m y) (by exact rfl) ?_; intro b3 w1 hr1 hs1 hb1; have HM0 := jd (aI hr1 hs1); have HB1 := jd hb1; clear hr1 hs1 hb1)
   | (refine bx_new rfl 31 rfl _ Tryz.zeroP ?_; intro b2 w2 hr2 hs2 hb2; have HZ := jd (Az.mk0 (ju HP) (ju HB0).1 (ju HB0).2 (ju HR0) (ju HB1) (ju HM0).2 (ju HM0).1 hb2 hs2 hr2); clear hr2 hs2 hb2 HR0 HB0 HM0 HB1)
   | (refine bx_ldK 31 (.tmp 2) (by exact rfl) b (by exact rfl) (by exact rfl) (gc s x) _ (ju HZ).row u31 (zP _ _) ?_)
   | (refine bx_ldK 87 (.tmp 3) (by exact rfl) b3 (by exact rfl) (by exact rfl) (mg m y) _ (ju HZ).rm Tryz.underlying87 (szM _ _) ?_)
   | (go_at_call 245; refine ((ju H1) _ (ju HZ).bel).mono ?_; rintro e w2 ⟨rfl, hb2⟩; replace HZ := jd ((ju HZ).next hb2); clear hb2; have m1 := (Mb2.of (ju HZ).rm).c1))
  have HX : Hid (∃ st : GP, r = (st, [(s.tell m false, gzx)]) ∧ st.id = s.id ∧ st.term = s.term ∧ Az base W w2 b b2 b3 st x m y) := jd ⟨s, (ju HT).trans (by simp), rfl, rfl, ju HZ⟩
  obtain ⟨st, hrr, e1, e2, hZ⟩ := ju HX
  subst hrr
  have hZd := hZ.next (Bel.refl w2).drew
  have HZd := jd hZd
  clear HX HZ HT H1 HP HBS hZ
  refine wp_region_held_drew (S := fun w => w.heap[b]? = some (.cells (gc st x) 31) ∧ w.heap[b3]? = some (.cells (mg m y) 87)) Tryz.follows ⟨hZd.row, hZd.rm⟩ (fun hS => ?_)
  clear hZd
  generalize w2.drew = wd at *
  refine any_ldP (i := 0) (b := b) rfl (by kernel_rfl) (fun _ _ _ h => h) rfl hS rfl (by go_simp) (fun w hw => hw.1) ?_
  refine any_take (i := 1) (v := .pointer (some ⟨b, 0, none⟩)) rfl (by kernel_rfl) (fun _ _ _ h => h) rfl hS (fun w hw => by go_simp) ?_
  refine any_take (i := 2) (v := .int .i64 s.id) rfl (by kernel_rfl) (fun _ _ _ h => h) rfl hS (fun w hw => by have := (Bg.of hw.1).c0; rw [e1] at this; go_simp) ?_
  refine any_take (i := 3) (v := .pointer (some ⟨b3, 1, none⟩)) rfl (by kernel_rfl) (fun _ _ _ h => h) rfl hS (fun w hw => by go_simp) ?_
  refine any_take (i := 4) (v := .int .i64 m.frm) rfl (by kernel_rfl) (fun _ _ _ h => h) rfl hS (fun w hw => by have := (Mb2.of hw.2).c1; go_simp) ?_
  refine any_take (i := 5) (v := .pointer (some ⟨b, 2, none⟩)) rfl (by kernel_rfl) (fun _ _ _ h => h) rfl hS (fun w hw => by go_simp) ?_
  refine any_take (i := 6) (v := .int .u64 s.term) rfl (by kernel_rfl) (fun _ _ _ h => h) rfl hS (fun w hw => by have := (Bg.of hw.1).c2; rw [e2] at this; go_simp) ?_
  refine any_take (i := 7) (v := .bool false) rfl (by kernel_rfl) (fun _ _ _ h => h) rfl hS (fun w hw => by go_simp) ?_
  refine any_take (i := 8) (v := .agg (mg (s.tell m false) gzx)) rfl (by kernel_rfl) (fun _ _ _ h => h) rfl hS (fun w hw => by simp only [GP.tell, mg, gzx]; go_simp) ?_
  obtain ⟨s2, x2, h2⟩ := (ju HZd).row2
  refine any_two (i := 9) (j := 10) (vi := .slice (some ⟨wd.heap.size, 0, none⟩) 1 1) (wi := wd.alloc (.cells (mg (s.tell m false) gzx) 87)) (wj := wd.setRow b2 (gc st x)) (by kernel_rfl) (by exact rfl) (by exact rfl) (by exact rfl) (by exact rfl) (by simp only [GP.tell, mg, gzx]; go_simp) (st_run (s := st) (z := x) (.tmp 4) (.tmp 15) (by exact rfl) (by go_simp) (by go_simp) h2) ⟨⟨((Bel.refl wd).alloc _).row hS.1, ((Bel.refl wd).alloc _).row hS.2⟩, ?_⟩ ⟨⟨(ch_row h2).2.row hS.1 (ju HZd).ne.symm, (ch_row h2).2.row hS.2 (ju HZd).ne4⟩, ?_⟩
  ·have h2' := ((Bel.refl wd).alloc (.cells (mg (s.tell m false) gzx) 87)).row h2
   have hZ1 := (ju HZd).next ((Bel.refl wd).alloc (.cells (mg (s.tell m false) gzx) 87))
   have hO := ((El.O.one (E := EMg) wd (s.tell m false, gzx)).mono (ju HZd).bel.size).box h2' (by decide) (ch_row (c' := gc st x) h2').2
   have hq := hZ1.out h2'
   have HQ := jd (aI hO hq)
   refine any_skip (i := 10) (by kernel_rfl) rfl rfl (st_run (s := st) (z := x) (.tmp 4) (.tmp 15) (by exact rfl) (by go_simp) (by go_simp) h2') ⟨⟨(ch_row (c' := gc st x) h2').2.row hZ1.row (ju HZd).ne.symm, (ch_row (c' := gc st x) h2').2.row hZ1.rm (ju HZd).ne4⟩, ?_⟩
   refine any_do (i := 11) (v := .slice (some ⟨wd.heap.size, 0, none⟩) 1 1) (by kernel_rfl) rfl rfl (by go_simp) ⟨⟨(ch_row (c' := gc st x) h2').2.row hZ1.row (ju HZd).ne.symm, (ch_row (c' := gc st x) h2').2.row hZ1.rm (ju HZd).ne4⟩, ?_⟩
   refine wpAnyH_done (by kernel_rfl) ?_ _
   clear hO hq hZ1 h2' h2 hS
   go_wp2_with fail
   refine bodyPost_ret (res2 (p := 4) (q := 5) rfl u31 (zP _ _) (ju HQ).2.1 _ _ rfl rfl) rfl ⟨_, _, rfl, (ju HQ).2.2.1, (ju HQ).1, (ju HQ).2.2.2⟩
  ·have hq := (ju HZd).out h2
   have hA := (Bel.refl (wd.setRow b2 (gc st x))).alloc (.cells (mg (s.tell m false) gzx) 87)
   have hO := (El.O.one (E := EMg) (wd.setRow b2 (gc st x)) (s.tell m false, gzx)).mono hq.2.2.size
   have HQ := jd (aI hO (aI (hA.row hq.1) (aI (hq.2.1.bel hA) (hq.2.2.trans hA))))
   have hS2 : (wd.setRow b2 (gc st x)).heap[b]? = some (.cells (gc st x) 31) ∧ (wd.setRow b2 (gc st x)).heap[b3]? = some (.cells (mg m y) 87) := ⟨(ch_row h2).2.row hS.1 (ju HZd).ne.symm, (ch_row h2).2.row hS.2 (ju HZd).ne4⟩
   generalize wd.setRow b2 (gc st x) = we at *
   refine any_do (i := 9) (v := .slice (some ⟨we.heap.size, 0, none⟩) 1 1) (w' := we.alloc (.cells (mg (s.tell m false) gzx) 87)) (by kernel_rfl) rfl rfl (by simp only [GP.tell, mg, gzx]; go_simp) ⟨⟨hA.row hS2.1, hA.row hS2.2⟩, ?_⟩
   refine any_do (i := 11) (v := .slice (some ⟨we.heap.size, 0, none⟩) 1 1) (by kernel_rfl) rfl rfl (by go_simp) ⟨⟨hA.row hS2.1, hA.row hS2.2⟩, ?_⟩
   refine wpAnyH_done (by kernel_rfl) ?_ _
   clear hO hq hA h2 hS hS2
   go_wp2_with fail
   refine bodyPost_ret (res2 (p := 4) (q := 5) rfl u31 (zP _ _) (ju HQ).2.1 _ _ rfl rfl) rfl ⟨_, _, rfl, (ju HQ).2.2.1, (ju HQ).1, (ju HQ).2.2.2⟩
 ·go_enter Tryz.func237, Tryz.ntmps237
  go_wp2_with (first
   | go_skip
   | go_guarded
   | (refine bx_boxK 31 (.tmp 0) (by exact rfl) (by exact rfl) (gc s x) (by exact rfl) ?_; intro b w0 hr0 hs0 hb0; have HR0 := jd hr0; have HB0 := jd (aI hb0 hs0); clear hr0 hs0 hb0)
   | (refine bx_boxK 87 (.tmp 1) (by exact rfl) (by exact rfl) (mg m y) (by exact rfl) ?_; intro b3 w1 hr1 hs1 hb1; have HM0 := jd (aI hr1 hs1); have HB1 := jd hb1; clear hr1 hs1 hb1)
   | (refine bx_new rfl 31 rfl _ Tryz.zeroP ?_; intro b2 w2 hr2 hs2 hb2; have HZ := jd (Az.mk0 (ju HP) (ju HB0).1 (ju HB0).2 (ju HR0) (ju HB1) (ju HM0).2 (ju HM0).1 hb2 hs2 hr2); clear hr2 hs2 hb2 HR0 HB0 HM0 HB1)
   | (refine bx_ldK 31 (.tmp 2) (by exact rfl) b (by exact rfl) (by exact rfl) (gc s x) _ (ju HZ).row u31 (zP _ _) ?_)
   | (refine bx_ldK 87 (.tmp 3) (by exact rfl) b3 (by exact rfl) (by exact rfl) (mg m y) _ (ju HZ).rm Tryz.underlying87 (szM _ _) ?_)
   | (go_at_call 245; refine ((ju H1) _ (ju HZ).bel).mono ?_; rintro e w2 ⟨rfl, hb2⟩; replace HZ := jd ((ju HZ).next hb2); clear hb2; have m1 := (Mb2.of (ju HZ).rm).c1)
   | (refine gl_vote rfl _ _ rfl b _ rfl rfl (ju HZ).row ?_; intro w3 hr3 hc3; replace HZ := jd ((ju HZ).set hr3 hc3 rfl rfl rfl rfl rfl rfl); clear hr3 hc3; have m1 := (Mb2.of (ju HZ).rm).c1)
   | (refine gl_idle rfl _ _ rfl b _ rfl rfl (ju HZ).row ?_; intro w3 hr3 hc3; replace HZ := jd ((ju HZ).set hr3 hc3 rfl rfl rfl rfl rfl rfl); clear hr3 hc3; have m1 := (Mb2.of (ju HZ).rm).c1))
  have HX : Hid (∃ st : GP, r = (st, [(s.tell m true, gzx)]) ∧ st.id = s.id ∧ st.term = s.term ∧ Az base W w3 b b2 b3 st x m y) := jd ⟨{ s with vote := m.frm, idle := 0 }, (ju HT).trans (by simp), rfl, rfl, ju HZ⟩
  obtain ⟨st, hrr, e1, e2, hZ⟩ := ju HX
  subst hrr
  have hZd := hZ.next (Bel.refl w3).drew
  have HZd := jd hZd
  clear HX HZ HT H1 HP HBS hZ
  refine wp_region_held_drew (S := fun w => w.heap[b]? = some (.cells (gc st x) 31) ∧ w.heap[b3]? = some (.cells (mg m y) 87)) Tryz.follows ⟨hZd.row, hZd.rm⟩ (fun hS => ?_)
  clear hZd
  generalize w3.drew = wd at *
  refine any_ldP (i := 0) (b := b) rfl (by kernel_rfl) (fun _ _ _ h => h) rfl hS rfl (by go_simp) (fun w hw => hw.1) ?_
  refine any_take (i := 1) (v := .pointer (some ⟨b, 0, none⟩)) rfl (by kernel_rfl) (fun _ _ _ h => h) rfl hS (fun w hw => by go_simp) ?_
  refine any_take (i := 2) (v := .int .i64 s.id) rfl (by kernel_rfl) (fun _ _ _ h => h) rfl hS (fun w hw => by have := (Bg.of hw.1).c0; rw [e1] at this; go_simp) ?_
  refine any_take (i := 3) (v := .pointer (some ⟨b3, 1, none⟩)) rfl (by kernel_rfl) (fun _ _ _ h => h) rfl hS (fun w hw => by go_simp) ?_
  refine any_take (i := 4) (v := .int .i64 m.frm) rfl (by kernel_rfl) (fun _ _ _ h => h) rfl hS (fun w hw => by have := (Mb2.of hw.2).c1; go_simp) ?_
  refine any_take (i := 5) (v := .pointer (some ⟨b, 2, none⟩)) rfl (by kernel_rfl) (fun _ _ _ h => h) rfl hS (fun w hw => by go_simp) ?_
  refine any_take (i := 6) (v := .int .u64 s.term) rfl (by kernel_rfl) (fun _ _ _ h => h) rfl hS (fun w hw => by have := (Bg.of hw.1).c2; rw [e2] at this; go_simp) ?_
  refine any_take (i := 7) (v := .bool true) rfl (by kernel_rfl) (fun _ _ _ h => h) rfl hS (fun w hw => by go_simp) ?_
  refine any_take (i := 8) (v := .agg (mg (s.tell m true) gzx)) rfl (by kernel_rfl) (fun _ _ _ h => h) rfl hS (fun w hw => by simp only [GP.tell, mg, gzx]; go_simp) ?_
  obtain ⟨s2, x2, h2⟩ := (ju HZd).row2
  refine any_two (i := 9) (j := 10) (vi := .slice (some ⟨wd.heap.size, 0, none⟩) 1 1) (wi := wd.alloc (.cells (mg (s.tell m true) gzx) 87)) (wj := wd.setRow b2 (gc st x)) (by kernel_rfl) (by exact rfl) (by exact rfl) (by exact rfl) (by exact rfl) (by simp only [GP.tell, mg, gzx]; go_simp) (st_run (s := st) (z := x) (.tmp 4) (.tmp 15) (by exact rfl) (by go_simp) (by go_simp) h2) ⟨⟨((Bel.refl wd).alloc _).row hS.1, ((Bel.refl wd).alloc _).row hS.2⟩, ?_⟩ ⟨⟨(ch_row h2).2.row hS.1 (ju HZd).ne.symm, (ch_row h2).2.row hS.2 (ju HZd).ne4⟩, ?_⟩
  ·have h2' := ((Bel.refl wd).alloc (.cells (mg (s.tell m true) gzx) 87)).row h2
   have hZ1 := (ju HZd).next ((Bel.refl wd).alloc (.cells (mg (s.tell m true) gzx) 87))
   have hO := ((El.O.one (E := EMg) wd (s.tell m true, gzx)).mono (ju HZd).bel.size).box h2' (by decide) (ch_row (c' := gc st x) h2').2
   have hq := hZ1.out h2'
   have HQ := jd (aI hO hq)
   refine any_skip (i := 10) (by kernel_rfl) rfl rfl (st_run (s := st) (z := x) (.tmp 4) (.tmp 15) (by exact rfl) (by go_simp) (by go_simp) h2') ⟨⟨(ch_row (c' := gc st x) h2').2.row hZ1.row (ju HZd).ne.symm, (ch_row (c' := gc st x) h2').2.row hZ1.rm (ju HZd).ne4⟩, ?_⟩
   refine any_do (i := 11) (v := .slice (some ⟨wd.heap.size, 0, none⟩) 1 1) (by kernel_rfl) rfl rfl (by go_simp) ⟨⟨(ch_row (c' := gc st x) h2').2.row hZ1.row (ju HZd).ne.symm, (ch_row (c' := gc st x) h2').2.row hZ1.rm (ju HZd).ne4⟩, ?_⟩
   refine wpAnyH_done (by kernel_rfl) ?_ _
   clear hO hq hZ1 h2' h2 hS
   go_wp2_with fail
   refine bodyPost_ret (res2 (p := 4) (q := 5) rfl u31 (zP _ _) (ju HQ).2.1 _ _ rfl rfl) rfl ⟨_, _, rfl, (ju HQ).2.2.1, (ju HQ).1, (ju HQ).2.2.2⟩
  ·have hq := (ju HZd).out h2
   have hA := (Bel.refl (wd.setRow b2 (gc st x))).alloc (.cells (mg (s.tell m true) gzx) 87)
   have hO := (El.O.one (E := EMg) (wd.setRow b2 (gc st x)) (s.tell m true, gzx)).mono hq.2.2.size
   have HQ := jd (aI hO (aI (hA.row hq.1) (aI (hq.2.1.bel hA) (hq.2.2.trans hA))))
   have hS2 : (wd.setRow b2 (gc st x)).heap[b]? = some (.cells (gc st x) 31) ∧ (wd.setRow b2 (gc st x)).heap[b3]? = some (.cells (mg m y) 87) := ⟨(ch_row h2).2.row hS.1 (ju HZd).ne.symm, (ch_row h2).2.row hS.2 (ju HZd).ne4⟩
   generalize wd.setRow b2 (gc st x) = we at *
   refine any_do (i := 9) (v := .slice (some ⟨we.heap.size, 0, none⟩) 1 1) (w' := we.alloc (.cells (mg (s.tell m true) gzx) 87)) (by kernel_rfl) rfl rfl (by simp only [GP.tell, mg, gzx]; go_simp) ⟨⟨hA.row hS2.1, hA.row hS2.2⟩, ?_⟩
   refine any_do (i := 11) (v := .slice (some ⟨we.heap.size, 0, none⟩) 1 1) (by kernel_rfl) rfl rfl (by go_simp) ⟨⟨hA.row hS2.1, hA.row hS2.2⟩, ?_⟩
   refine wpAnyH_done (by kernel_rfl) ?_ _
   clear hO hq hA h2 hS hS2
   go_wp2_with fail
   refine bodyPost_ret (res2 (p := 4) (q := 5) rfl u31 (zP _ _) (ju HQ).2.1 _ _ rfl rfl) rfl ⟨_, _, rfl, (ju HQ).2.2.1, (ju HQ).1, (ju HQ).2.2.2⟩
def GP.cand (s : GP) (draw : Int) : GP := { s with term := s.term + 1, role := 1, lead := 0, vote := s.id, votes := [s.id], idle := 0, wait := 10 + draw % 10 }
def askM (id to tm I T : Int) : GM := ⟨1, id, to, tm, I, T, 0, 0, false, [], [], ⟨#[]⟩⟩
def GP.asks (s : GP) : List (GM × GX) := (othG s).map fun i => (askM s.id i s.term s.lastI s.lastT, gzx)
theorem Wg.appM {base : Nat} {W w w' : World} {b b2 : Nat} {s : GP} {x : Px} {v : Value} {L : List (GM × GX)} (h : Wg base W w b b2 s x) (hO : EMg.O W.heap.size w v L) (hg : w.grownBy w' v.ownBlock) : Wg base W w' b b2 s x := by
 obtain ⟨s2, x2, h2⟩ := h.row2
 refine ⟨row_grown h.row hO hg (by decide), ⟨h.pg.m.grown hO hg (by decide), h.pg.b.grown hO hg (by decide), ?_, h.pg.v.grown hO hg (by decide), h.pg.f.grown hO hg (by decide), ?_, h.pg.dv⟩, Below.grew h.bel hg h.hw (fun k hk => Nat.le_trans h.hB (hO.lt hk).1), ⟨s2, x2, row_grown h2 hO hg (by decide)⟩, h.ge, h.ge2, h.ne, h.hB, Nat.le_trans h.hs hg.size, fun k c t q h3 => ?_⟩
 ·obtain ⟨LG, hl⟩ := h.pg.l
  exact ⟨LG, hl.map, hl.row.grown hO hg (by decide), fun z hz => (hl.own z hz).grown hO hg (by decide)⟩
 ·obtain ⟨LR, q1, q2, q3⟩ := h.pg.r
  exact ⟨LR, q1, q2.grown hO hg (by decide), fun z hz => (q3 z hz).grown hO hg (by decide)⟩
 ·rw [hg.block k (Nat.lt_of_lt_of_le (lt_of_some q) h.hs) (fun e => by have h5 := (hO.lt e.symm).1; have h6 := lt_of_some q; omega)]
  exact h.kp k c t q h3
theorem Wg.setv {base : Nat} {W w w' : World} {b b2 : Nat} {s : GP} {x : Px} {L : List Int} {a : Option Addr} {c : Nat} (h : Wg base W w b b2 s x) (h1 : w'.heap[b]? = some (.cells (gc { s with votes := L } { x with aV := a, cV := c }) 31)) (hc : Ch (fun i => i = b) w w') (hO : E3.O base w (.slice a L.length c) L) (hd : ∀ k j, (Value.slice a L.length c).ownBlock = some k → (Value.slice x.aM s.M.length x.cM).ownBlock = some j ∨ (Value.slice x.aB s.B.length x.cB).ownBlock = some j → j < k) : Wg base W w' b b2 { s with votes := L } { x with aV := a, cV := c } := h.set h1 hc (fun p => ⟨p.m, p.b, p.l, hO, p.f, p.r, hd⟩)
def CamG (base : Nat) (W : World) (b b2 : Nat) (s : GP) (x : Px) (no : Nat) (o6 : List Int) (a6 : Option Addr) (c6 : Nat) (tm I tT : Int) (va vk : Value) (wr : World) : Prop := ∃ (k : Nat) (aA : Option Addr) (cA : Nat) (A : List (GM × GX)), k ≤ no ∧ vk = .int .i64 k ∧ va = .slice aA A.length cA ∧ Hid (A = (o6.take k).map fun i => (askM s.id i tm I tT, gzx)) ∧ Hid (Wg base W wr b b2 s x ∧ E3.O 0 wr (.slice a6 no c6) o6 ∧ EMg.O W.heap.size wr (.slice aA A.length cA) A)
set_option maxRecDepth 100000 in
set_option maxHeartbeats 4000000 in
theorem campaign_g {base : Nat} {W : World} {s : GP} {x : Px} (h : Pg base W s x) (hB : base ≤ W.heap.size) (hn : s.M.length ≤ 64) (h1 : 1 ≤ s.M.length) (hM : Ris s.M) (h0 : 0 ≤ s.base) (h62 : s.base ≤ 4611686018427387904) (hl : s.log.length ≤ 99999) (ht : 0 ≤ s.term ∧ s.term ≤ 4611686018427387904) (hf : s.fol = []) (draw : Int) (hd : 0 ≤ draw) : Calls Tryz.prog 129 #[.agg (gc s x), .int .i64 draw] W fun e w' => ∃ x' aA cA, e = .returned (.tuple #[.agg (gc (s.cand draw).winIf x'), .slice aA (s.cand draw).asks.length cA]) ∧ Pg base w' (s.cand draw).winIf x' ∧ EMg.O W.heap.size w' (.slice aA (s.cand draw).asks.length cA) (s.cand draw).asks ∧ Below base W w' ∧ Kp W w' := by
 have HP := jd h
 have HBS := jd hB
 have HW : Hid (∀ w1 x1, Pg base w1 (s.cand draw) x1 → base ≤ w1.heap.size → Calls Tryz.prog 170 #[.agg (gc (s.cand draw) x1)] w1 fun e w' => ∃ x', e = .returned (.agg (gc (s.cand draw).winIf x')) ∧ Pg base w' (s.cand draw).winIf x' ∧ Below base w1 w' ∧ Kp w1 w') := jd (fun w1 x1 hp hb => win_g (s := s.cand draw) hp hb hn h1 h0 h62 hl hM (List.pairwise_singleton _ _) (by show 1 ≤ 64; decide) hf)
 have HLA : Hid (∀ w1 x1, SlG w1 x1.aL s.log → Calls Tryz.prog 79 #[.agg (gc (s.cand draw) x1)] w1 fun e w' => e = .returned (.tuple #[.int .u64 s.lastI, .int .u64 s.lastT]) ∧ Bel w1 w') := jd (fun w1 x1 hs => last_g (s := s.cand draw) hs h0 h62 (by show s.log.length ≤ _; omega))
 have HO : Hid (∀ w1 x1, Sl E3 w1 x1.aM s.M → Calls Tryz.prog 169 #[.agg (gc (s.cand draw) x1)] w1 fun e w' => ∃ a' c', e = .returned (.slice a' (othG s).length c') ∧ E3.O w1.heap.size w' (.slice a' (othG s).length c') (othG s) ∧ Bel w1 w') := jd (fun w1 x1 hs => othersO_g (s := s.cand draw) hs (by show s.M.length ≤ _; omega) h1)
 have HON : Hid ((othG s).length ≤ 64) := jd (Nat.le_trans (List.length_filter_le _ _) hn)
 have hw1 : IntKind.u64.wrap (s.term + 1) = s.term + 1 := by rw [IntKind.wrap_u64]; omega
 have hmd : draw.tmod 10 = draw % 10 := Int.tmod_eq_emod_of_nonneg hd
 have hm2 : 0 ≤ draw % 10 ∧ draw % 10 < 10 := by omega
 have hw2 : IntKind.i64.wrap (10 + draw % 10) = 10 + draw % 10 := wrapI (by omega) (by omega)
 clear h hB hn h1 hM h0 h62 hl ht hf
 go_enter Tryz.func129, Tryz.ntmps129
 go_wp2_with (first
  | (refine bx_boxK 31 (.tmp 0) (by exact rfl) (by exact rfl) (gc s x) (by exact rfl) ?_; intro b w0 hr0 hs0 hb0; have HR0 := jd hr0; have HB0 := jd (aI hb0 hs0); clear hr0 hs0 hb0)
  | (refine bx_new rfl 31 rfl _ Tryz.zeroP ?_; intro b2 w1 hr1 hs1 hb1; have y0 := (Bg.of (hb1.row (ju HR0))).c0; have y1 := (Bg.of (hb1.row (ju HR0))).c1; have y2 := (Bg.of (hb1.row (ju HR0))).c2; have y14 := (Bg.of (hb1.row (ju HR0))).c14; have HBW := jd ((ju HB0).1.trans hb1); have HZ : Hid (Wg base W w1 b b2 s x) := jd ⟨hb1.row (ju HR0), (ju HP).bel ((ju HB0).1.trans hb1), Below.ofBel (Below.refl _ _) ((ju HB0).1.trans hb1) (ju HBS), ⟨_, _, hr1⟩, by have := (ju HB0).2; omega, by have := (ju HB0).1.size; omega, fun e => by have := lt_of_some (ju HR0); omega, ju HBS, ((ju HB0).1.trans hb1).size, (Kp.refl W).bel ((ju HB0).1.trans hb1)⟩; clear hr1 hs1 hb1)
  | (refine gl_term rfl _ _ rfl b _ rfl rfl (ju HZ).row ?_; intro w3 hr3 hc3; have y0 := (Bg.of hr3).c0; have y1 := (Bg.of hr3).c1; have y2 := (Bg.of hr3).c2; have y10 := (Bg.of hr3).c10; have y15 := (Bg.of hr3).c15; replace HZ := jd ((ju HZ).set hr3 hc3 (fun p => ⟨p.m, p.b, p.l, p.v, p.f, p.r, p.dv⟩)); clear hr3 hc3)
  | (refine gl_role rfl _ _ rfl b _ rfl rfl (ju HZ).row ?_; intro w3 hr3 hc3; have y0 := (Bg.of hr3).c0; have y1 := (Bg.of hr3).c1; have y2 := (Bg.of hr3).c2; have y10 := (Bg.of hr3).c10; have y15 := (Bg.of hr3).c15; replace HZ := jd ((ju HZ).set hr3 hc3 (fun p => ⟨p.m, p.b, p.l, p.v, p.f, p.r, p.dv⟩)); clear hr3 hc3)
  | (refine gl_lead rfl _ _ rfl b _ rfl rfl (ju HZ).row ?_; intro w3 hr3 hc3; have y0 := (Bg.of hr3).c0; have y1 := (Bg.of hr3).c1; have y2 := (Bg.of hr3).c2; have y10 := (Bg.of hr3).c10; have y15 := (Bg.of hr3).c15; replace HZ := jd ((ju HZ).set hr3 hc3 (fun p => ⟨p.m, p.b, p.l, p.v, p.f, p.r, p.dv⟩)); clear hr3 hc3)
  | (refine gl_idle rfl _ _ rfl b _ rfl rfl (ju HZ).row ?_; intro w3 hr3 hc3; have y0 := (Bg.of hr3).c0; have y1 := (Bg.of hr3).c1; have y2 := (Bg.of hr3).c2; have y10 := (Bg.of hr3).c10; have y15 := (Bg.of hr3).c15; replace HZ := jd ((ju HZ).set hr3 hc3 (fun p => ⟨p.m, p.b, p.l, p.v, p.f, p.r, p.dv⟩)); clear hr3 hc3)
  | (refine gl_wait rfl _ _ rfl b _ rfl rfl (ju HZ).row ?_; intro w3 hr3 hc3; have y0 := (Bg.of hr3).c0; have y1 := (Bg.of hr3).c1; have y2 := (Bg.of hr3).c2; have y10 := (Bg.of hr3).c10; have y15 := (Bg.of hr3).c15; replace HZ := jd ((ju HZ).set hr3 hc3 (fun p => ⟨p.m, p.b, p.l, p.v, p.f, p.r, p.dv⟩)); clear hr3 hc3)
  | (refine gl_vote rfl _ _ rfl b _ rfl rfl ((ju HZ).next ((Bel.refl _).alloc (.cells #[.int .i64 s.id] 3))).row ?_; intro w3 hr3 hc3; have y0 := (Bg.of hr3).c0; have y1 := (Bg.of hr3).c1; have y2 := (Bg.of hr3).c2; have y10 := (Bg.of hr3).c10; have y15 := (Bg.of hr3).c15; have HVo := jd (aI ((El.O.built (E := E3) _ s.id).box ((ju HZ).next ((Bel.refl _).alloc (.cells #[.int .i64 s.id] 3))).row (by decide) hc3) (aI (ju HZ).hs (ju HZ).pg)); have HVw := jd (ju HZ).hw; replace HZ := jd (((ju HZ).next ((Bel.refl _).alloc (.cells #[.int .i64 s.id] 3))).set hr3 hc3 (fun p => ⟨p.m, p.b, p.l, p.v, p.f, p.r, p.dv⟩)); clear hr3 hc3)
  | (refine gl_votes rfl _ _ rfl b _ [s.id] 1 rfl rfl (ju HZ).row ?_; intro w3 hr3 hc3; have y0 := (Bg.of hr3).c0; have y1 := (Bg.of hr3).c1; have y2 := (Bg.of hr3).c2; have y10 := (Bg.of hr3).c10; have y15 := (Bg.of hr3).c15; have HV3 := jd ((ju HVo).1.box (ju HZ).row (by decide) hc3); replace HZ := jd ((ju HZ).setv hr3 hc3 ((ju HVo).1.mono (ju HVw)) (fun k j hk hj => by cases hk; exact hj.elim (fun e => ((ju HVo).2.2.m.lt e).2) (fun e => ((ju HVo).2.2.b.lt e).2))); clear hr3 hc3)
  | (go_at_call 79; refine ((ju HLA) _ _ (ju HZ).pg.gp.l).mono ?_; rintro e w5 ⟨he5, hb5⟩; obtain ⟨I, tT, hI, hT, hIT⟩ : ∃ I tT, I = s.lastI ∧ tT = s.lastT ∧ e = .returned (.tuple #[.int .u64 I, .int .u64 tT]) := ⟨_, _, rfl, rfl, he5⟩; clear he5; subst hIT; have HIT := jd (aI hI hT); clear hI hT; replace HZ := jd ((ju HZ).next hb5); clear hb5)
  | (go_at_call 169; refine ((ju HO) _ _ (ju HZ).pg.gp.m).mono ?_; rintro e w6 ⟨a6, c6, rfl, hs6, hb6⟩; have HS6 := jd (hs6.mono (Nat.zero_le _)); have HX6 : Hid (∃ x1, Wg base W w6 b b2 (s.cand draw) x1) := jd ⟨_, (ju HZ).next hb6⟩; clear hb6 hs6)
  | (refine bx_ldK 31 (.tmp 2) (by exact rfl) b (by exact rfl) (by exact rfl) _ _ (ju HZ).row u31 (zP _ _) ?_))
 obtain ⟨x1, hx1⟩ := ju HX6
 have HZ1 := jd hx1
 have HAK : Hid ((s.cand draw).asks = (othG s).map fun i => (askM s.id i (s.term + 1) I tT, gzx)) := jd (by rw [(ju HIT).1, (ju HIT).2]; rfl)
 clear hx1 HX6 HZ
 clear y0 y1 y2 y10 y15 y14
 have hid : (s.cand draw).id = s.id := rfl
 have htm : (s.cand draw).term = s.term + 1 := rfl
 generalize hsc : s.cand draw = sc at *
 have HSC := jd hsc
 clear hsc
 generalize hno : (othG s).length = no at *
 have hno64 : no ≤ 64 := ju HON
 go_loopw [8, 37] (CamG base W b b2 sc x1 no (othG s) a6 c6 (s.term + 1) I tT) (fun _ vk _ => no - (intOf vk).toNat)
 case atStart => exact ⟨0, none, 0, [], Nat.zero_le _, rfl, rfl, jd rfl, jd ⟨ju HZ1, ju HS6, El.O.nil _ _⟩⟩
 case round =>
  obtain ⟨k, aA, cA, A, hk, rfl, rfl, HAk, HZr⟩ := hrel
  have z0 : wr.cell? ⟨b, 0, none⟩ = some (.int .i64 s.id) := by rw [← hid]; exact (Bg.of (ju HZr).1.row).c0
  have z2 : wr.cell? ⟨b, 2, none⟩ = some (.int .u64 (s.term + 1)) := by rw [← htm]; exact (Bg.of (ju HZr).1.row).c2
  rw [hid] at HAk
  by_cases hlt : k < no
  ·have hkn : (k : Int) < no := by omega
   have hkl : k < (othG s).length := by rw [hno]; exact hlt
   obtain ⟨g6, rfl⟩ : ∃ g6, a6 = some ⟨g6, 0, none⟩ := by
    obtain ⟨a', c', g', e, hh, _⟩ := (ju HZr).2.1.shape
    injection e with e1
    exact ⟨g', e1.trans (hh (by omega))⟩
   have hR6 : E3.R wr g6 0 (othG s) := by have := (ju HZr).2.1; rw [← hno] at this; exact this.row
   have r0 := E3_cell hR6 k hkl
   rw [Nat.zero_add] at r0
   obtain ⟨A', hA'⟩ : ∃ A', A' = A ++ [(askM s.id (othG s)[k] (s.term + 1) I tT, gzx)] := ⟨_, rfl⟩
   have HA2 : Hid (A' = ((othG s).take (k + 1)).map fun i => (askM s.id i (s.term + 1) I tT, gzx)) := jd (by
    rw [hA', show A = ((othG s).take k).map fun i => (askM s.id i (s.term + 1) I tT, gzx) from ju HAk, List.take_add_one, List.getElem?_eq_getElem hkl, List.map_append]; rfl)
   have HA' := jd hA'
   have hAl : A.length ≤ 64 := by rw [show A = ((othG s).take k).map fun i => (askM s.id i (s.term + 1) I tT, gzx) from ju HAk]; simp; omega
   generalize (othG s)[k] = to at *
   clear hA' hR6
   go_wp2_with (first
    | (at_builtin; refine app1_el (E := EMg) (askM s.id to (s.term + 1) I tT, gzx) A' (ju HA') ((ju HZr).2.2.bel ((Bel.refl _).alloc _)) (Nat.le_trans (ju HZr).1.hs ((Bel.refl _).alloc _).size) _ _ (at_new _ _) (by omega) rfl _ _ 47 rfl rfl rfl rfl ?_; intro gA capA w4 ho4 hg4 hat4; have hZ4 := (ju HZr).1.next ((Bel.refl wr).alloc (.cells (EMg.enc (askM s.id to (s.term + 1) I tT, gzx)).toArray 87)); have hO4 := (ju HZr).2.2.bel ((Bel.refl wr).alloc (.cells (EMg.enc (askM s.id to (s.term + 1) I tT, gzx)).toArray 87)); have HZ4 : Hid (Wg base W w4 b b2 sc x1 ∧ E3.O 0 w4 (.slice (some ⟨g6, 0, none⟩) no c6) (othG s) ∧ EMg.O W.heap.size w4 (.slice (some ⟨gA, 0, none⟩) A'.length capA) A') := jd ⟨hZ4.appM hO4 hg4, ((ju HZr).2.1.bel ((Bel.refl wr).alloc _)).grown hO4 hg4 (by decide), ho4⟩; clear hZ4 hO4 ho4 hg4 hat4))
   go_roundw
   case rel =>
    have hfin : ∀ v : Value, v = .int .i64 ((k + 1 : Nat) : Int) → CamG base W b b2 sc x1 no (othG s) (some ⟨g6, 0, none⟩) c6 (s.term + 1) I tT (.slice (some ⟨gA, 0, none⟩) A'.length capA) v w4 := fun v hv => ⟨k + 1, _, _, A', by omega, hv, rfl, (by rw [hid]; exact HA2), HZ4⟩
    first
     | exact hfin _ (by go_num)
     | ((repeat apply Exists.intro); exact ⟨hfin _ (by go_num), rfl⟩)
   case measure => simp [intOf]; omega
  ·obtain rfl : k = no := by omega
   have hAA : A = sc.asks := by
    rw [ju HAK, show A = ((othG s).take k).map fun i => (askM s.id i (s.term + 1) I tT, gzx) from ju HAk, List.take_of_length_le (by omega)]
   subst hAA
   have HZ := jd (ju HZr).1
   clear z0 z2
   generalize hnA : sc.asks.length = nA at *
   have HC := jd ((ju HW) wr x1 (ju HZ).pg (ju HZ).hw)
   have HSA := jd (ju HZr).2.2
   go_wp2_with (first
    | (refine bx_ldK 31 (.tmp 2) (by exact rfl) b (by exact rfl) (by exact rfl) _ _ (ju HZ).row u31 (zP _ _) ?_)
    | (go_at_call 170; refine (ju HC).mono ?_; rintro e w8 ⟨x8, rfl, hp8, hb8, hk8⟩; obtain ⟨s2, x2, h2⟩ := (ju HZ).row2; have HW8 := jd (aI hp8 (aI (Below.trans (ju HZ).bel hb8) (aI ((ju HSA).kp hk8 (by decide)) (aI (hk8 _ _ _ h2 (by decide)) (aI ((ju HZ).kp.trans hk8) (Nat.le_trans (ju HZ).hw hb8.size)))))); clear hp8 hb8 hk8 h2)
    | (refine bx_st rfl 31 (.tmp 4) _ rfl b2 _ _ rfl rfl (ju HW8).2.2.2.1 (zP _ _) rfl (gc_one _ _) ?_; intro w9 hr9 hc9; have HR9 := jd (aI hr9 (aI ((ju HW8).1.box (ju HW8).2.2.2.1 hc9) (aI ((ju HW8).2.2.1.box (ju HW8).2.2.2.1 (by decide) hc9) (aI (Below.offCh (ju HW8).2.1 hc9 (ju HW8).2.2.2.2.2 (Nat.le_trans (ju HZ).hB (ju HZ).ge2)) ((ju HW8).2.2.2.2.1.off hc9 (ju HZ).ge2))))); clear hr9 hc9))
   subst hnA
   have hsc := ju HSC
   subst hsc
   refine bodyPost_ret (res2 (p := 4) (q := 5) rfl u31 (zP _ _) (ju HR9).1 _ _ rfl rfl) rfl ⟨_, _, _, rfl, (ju HR9).2.1, (ju HR9).2.2.1, (ju HR9).2.2.2⟩
theorem bx_boxH {ops : Array Oper} {rest : List Oper} {o : Oper} {a : Act} {Q : Exit → Act → World → Prop} {W : World} (t : TypeId) (x : Operand) (ho : o.op = .box t x) (hgd : o.guard = none) (cs : Array Value) (hx : a.eval x = .agg cs)
  (h : ∀ b w', w'.heap[b]? = some (.cells cs t) → W.heap.size = b → Bel W w' → wpList Tryz.prog ops Q rest (a.put o.dst (.pointer (some ⟨b, 0, none⟩))) w') : wpList Tryz.prog ops Q (o :: rest) a W := bx_box hgd t x ho cs hx h
theorem pnew_ok {n : Nat} {id wait : Int} (hi : 1 ≤ id ∧ id ≤ n) (hw : 1 ≤ wait ∧ wait ≤ 1000) : Ok n 0 0 (pnew id wait) := by
 refine ⟨hi.1, hi.2, Int.le_refl _, Int.le_refl _, ⟨Int.le_refl _, ?_⟩, ⟨Int.le_refl _, ?_⟩, hw, ⟨Int.le_refl _, ?_⟩, ⟨List.Pairwise.nil, fun x hx => (by cases hx)⟩, Nat.le_refl _, Nat.le_refl _, List.Pairwise.nil, fun x hx => (by cases hx), Or.inl ⟨rfl, rfl, rfl⟩⟩
 ·show (0 : Int) ≤ n; omega
 ·show (0 : Int) ≤ n; omega
 ·show (0 : Int) ≤ 1000; omega
def p0 : PP := ⟨0, 0, 0, 0, 0, 0, 0, [], [], [], 0⟩
theorem more_ok {n T G : Nat} {s : PP} (h : Ok n T G s) (hr : s.role = 2) (d : ByteArray) : Ok n T (G + 1) (s.more d) := by
 rcases h.role with h' | h' | h'
 ·omega
 ·omega
 ·refine ⟨h.id1, h.idn, h.t0, h.tT, h.vote, h.lead, h.wait, h.idle, ?_, ?_, ?_, h.vr, h.vm, Or.inr (Or.inr ⟨hr, h'.2.1, h'.2.2.1, h'.2.2.2.1, h'.2.2.2.2.1, h'.2.2.2.2.2.1, fun f hf => ?_⟩)⟩
  ·exact h.log.snoc rfl (Or.inl rfl) h'.2.2.1
  ·have := h.glen; simp [PP.more]; omega
  ·have := h.com; simp [PP.more]; omega
  ·have := h'.2.2.2.2.2.2 f hf; simp [PP.more]; omega
def gnew (id wait : Int) (l : List Int) : GP := ⟨id, l, 0, 0, 0, 0, 0, 0, l, ⟨#[]⟩, [], 0, 0, wait, [], [], 0, []⟩
def xnw (a : Option Addr) (c : Nat) : Px := ⟨a, c, a, c, none, 0, none, 0, none, 0, none, 0⟩
theorem gnew_gz (id wait : Int) (l : List Int) (hl : l.length ≤ 17592186044416) (x : Px) : Gz (gnew id wait l) x := by
 have z : (0 : Int) ≤ 0 ∧ (0 : Int) ≤ 18446744073709551615 := by decide
 exact ⟨z, z, z, z, z, hl, hl, Nat.zero_le _, Nat.zero_le _, (fun e he => by cases he), (fun e he => by cases he), Nat.zero_le _, (fun e he => by cases he), Nat.zero_le _, (fun e he => by cases he), Nat.zero_le _⟩
structure NwS (W w : World) (b b2 : Nat) (s : GP) (x : Px) : Prop where
 row : w.heap[b]? = some (.cells (gc s x) 31)
 pg : Pg W.heap.size w s x
 bel : Bel W w
 row2 : w.heap[b2]? = some (.cells (gc g0 y0) 31)
 ge : W.heap.size ≤ b
 ge2 : W.heap.size ≤ b2
 ne : b ≠ b2
set_option maxRecDepth 100000 in
set_option maxHeartbeats 4000000 in
theorem new_g {W : World} {a : Option Addr} {c : Nat} {l : List Int} {id wait : Int} (h : Sl E3 W a l) (hl : l.length ≤ 1000000) : Calls Tryz.prog 17 #[.int .i64 id, .int .i64 wait, .slice a l.length c] W fun e w' => ((mayG (gnew id wait l) = true ∧ ∃ x', e = .returned (.tuple #[.agg (gc (gnew id wait l) x'), .int .i64 0]) ∧ Pg W.heap.size w' (gnew id wait l) x') ∨ (mayG (gnew id wait l) = false ∧ e = .returned (.tuple #[.agg (gc g0 y0), .int .i64 2]))) ∧ Bel W w' := by
 have hg : ∀ W', Bel W W' → Gp W' (gnew id wait l) (xnw a c) := fun W' hb => ⟨h.bel hb, h.bel hb, ⟨[], rfl, Sl.nil _ _ _, fun x hx => by cases hx⟩, Sl.nil _ _ _, Sl.nil _ _ _, ⟨[], rfl, Sl.nil _ _ _, fun x hx => by cases hx⟩⟩
 have H2 : Hid (∀ W', Bel W W' → Calls Tryz.prog 41 #[.agg (gc (gnew id wait l) (xnw a c))] W' fun e w' => ∃ x', e = .returned (.agg (gc (gnew id wait l) x')) ∧ Pg W.heap.size w' (gnew id wait l) x' ∧ Bel W' w') := jd (fun W' hb => (clone_g (hg W' hb) (by show l.length ≤ _; omega) (by show l.length ≤ _; omega) (Nat.zero_le _) (fun e he => by cases he) (Nat.zero_le _) (Nat.zero_le _) (Nat.zero_le _) (fun e he => by cases he)).mono (fun _ _ ⟨x', he, hp, hb'⟩ => ⟨x', he, hp.mono hb.size, hb'⟩))
 have H1 : Hid (∀ W' x', Gp W' (gnew id wait l) x' → Calls Tryz.prog 42 #[.agg (gc (gnew id wait l) x')] W' fun e w' => e = .returned (.int .i64 (if mayG (gnew id wait l) then 0 else 2)) ∧ Bel W' w') := jd (fun W' x' hp => may_g hp (gnew_gz id wait l (by omega) x'))
 clear h hl hg
 have HX : Hid ((#[.int .i64 id, .slice a l.length c, .int .u64 0, .int .i64 0, .int .u8 0, .int .i64 0, .int .u64 0, .int .u64 0, .slice a l.length c, .string ⟨#[]⟩, .slice none 0 0, .int .u64 0, .int .i64 0, .int .i64 wait, .slice none 0 0, .slice none 0 0, .int .u64 0, .slice none 0 0] : Array Value) = gc (gnew id wait l) (xnw a c)) := jd rfl
 generalize hgn : gnew id wait l = gn at *
 generalize xnw a c = xn at *
 generalize l.length = n at *
 clear hgn
 cases hm : mayG gn with
 | true =>
  rw [hm, if_pos rfl] at H1
  clear hm
  go_enter Tryz.func17, Tryz.ntmps17
  go_wp2_with (first
   | go_skip
   | (refine bx_new rfl 31 rfl _ Tryz.zeroP ?_; intro b w2 hr2 hs2 hb2; have HA := jd (aI hr2 (aI (hb2.row (ju HR1).1) (aI ((ju HR1).2.1.trans hb2) (aI (show W.heap.size ≤ b by have := (ju HR1).2.1.size; omega) (aI (show W.heap.size ≤ b2 by have := (ju HR1).2.2; omega) (show b ≠ b2 from fun e => by have := lt_of_some (ju HR1).1; omega)))))); have HG := jd ((ju HG3).bel hb2); clear hr2 hs2 hb2 HR1 HG3)
   | (refine bx_new rfl 31 rfl _ Tryz.zeroP ?_; intro b2 w1 hr1 hs1 hb1; have HR1 := jd (aI hr1 (aI hb1 (Nat.le_of_eq hs1))); clear hr1 hs1 hb1)
   | (rw [ju HX]; go_at_call 41; refine ((ju H2) _ (ju HR1).2.1).mono ?_; rintro e w3 ⟨x3, rfl, hp3, hb3⟩; have HG3 := jd hp3; replace HR1 := jd (aI (hb3.row (ju HR1).1) (aI ((ju HR1).2.1.trans hb3) (ju HR1).2.2)); clear hp3 hb3)
   | (refine bx_ldK 31 (.tmp 8) (by exact rfl) b (by exact rfl) (by exact rfl) (gc gn x3) _ (ju HZ).row u31 (zP _ _) ?_)
   | go_guarded
   | (refine bx_st rfl 31 (.tmp 8) _ rfl b (gc gn x3) _ rfl rfl (ju HA).1 (zP _ _) rfl (gc_one _ _) ?_; intro w4 hr4 hc4; have HZ : Hid (NwS W w4 b b2 gn x3) := jd ⟨hr4, (ju HG).box (ju HA).1 hc4, bel_off (ju HA).2.2.1 hc4 (ju HA).2.2.2.1, hc4.row (ju HA).2.1 (fun e => (ju HA).2.2.2.2.2 e.symm), (ju HA).2.2.2.1, (ju HA).2.2.2.2.1, (ju HA).2.2.2.2.2⟩; clear hr4 hc4 HA HG)
   | (go_at_call 42; refine ((ju H1) _ _ (ju HZ).pg.gp).mono ?_; rintro e w5 ⟨rfl, hb5⟩; replace HZ : Hid (NwS W w5 b b2 gn x3) := jd ⟨hb5.row (ju HZ).row, (ju HZ).pg.bel hb5, (ju HZ).bel.trans hb5, hb5.row (ju HZ).row2, (ju HZ).ge, (ju HZ).ge2, (ju HZ).ne⟩; clear hb5)
   | (refine bx_st rfl 31 (.tmp 6) _ rfl b2 (gc gn x3) _ rfl rfl (ju HZ).row2 (zP _ _) rfl (gc_one _ _) ?_; intro w9 hr9 hc9; have HR9 := jd (aI hr9 (aI ((ju HZ).pg.box (ju HZ).row2 hc9) (bel_off (ju HZ).bel hc9 (ju HZ).ge2))); clear hr9 hc9))
  exact bodyPost_ret (res2 (p := 6) (q := 7) rfl u31 (zP _ _) (ju HR9).1 _ _ rfl rfl) rfl ⟨Or.inl ⟨trivial, _, rfl, (ju HR9).2.1⟩, (ju HR9).2.2⟩
 | false =>
  rw [hm, if_neg (by decide)] at H1
  clear hm
  go_enter Tryz.func17, Tryz.ntmps17
  go_wp2_with (first
   | go_skip
   | (refine bx_new rfl 31 rfl _ Tryz.zeroP ?_; intro b w2 hr2 hs2 hb2; have HA := jd (aI hr2 (aI (hb2.row (ju HR1).1) (aI ((ju HR1).2.1.trans hb2) (aI (show W.heap.size ≤ b by have := (ju HR1).2.1.size; omega) (aI (show W.heap.size ≤ b2 by have := (ju HR1).2.2; omega) (show b ≠ b2 from fun e => by have := lt_of_some (ju HR1).1; omega)))))); have HG := jd ((ju HG3).bel hb2); clear hr2 hs2 hb2 HR1 HG3)
   | (refine bx_new rfl 31 rfl _ Tryz.zeroP ?_; intro b2 w1 hr1 hs1 hb1; have HR1 := jd (aI hr1 (aI hb1 (Nat.le_of_eq hs1))); clear hr1 hs1 hb1)
   | (rw [ju HX]; go_at_call 41; refine ((ju H2) _ (ju HR1).2.1).mono ?_; rintro e w3 ⟨x3, rfl, hp3, hb3⟩; have HG3 := jd hp3; replace HR1 := jd (aI (hb3.row (ju HR1).1) (aI ((ju HR1).2.1.trans hb3) (ju HR1).2.2)); clear hp3 hb3)
   | (refine bx_ldK 31 (.tmp 8) (by exact rfl) b (by exact rfl) (by exact rfl) (gc gn x3) _ (ju HZ).row u31 (zP _ _) ?_)
   | go_guarded
   | (refine bx_st rfl 31 (.tmp 8) _ rfl b (gc gn x3) _ rfl rfl (ju HA).1 (zP _ _) rfl (gc_one _ _) ?_; intro w4 hr4 hc4; have HZ : Hid (NwS W w4 b b2 gn x3) := jd ⟨hr4, (ju HG).box (ju HA).1 hc4, bel_off (ju HA).2.2.1 hc4 (ju HA).2.2.2.1, hc4.row (ju HA).2.1 (fun e => (ju HA).2.2.2.2.2 e.symm), (ju HA).2.2.2.1, (ju HA).2.2.2.2.1, (ju HA).2.2.2.2.2⟩; clear hr4 hc4 HA HG)
   | (go_at_call 42; refine ((ju H1) _ _ (ju HZ).pg.gp).mono ?_; rintro e w5 ⟨rfl, hb5⟩; replace HZ : Hid (NwS W w5 b b2 gn x3) := jd ⟨hb5.row (ju HZ).row, (ju HZ).pg.bel hb5, (ju HZ).bel.trans hb5, hb5.row (ju HZ).row2, (ju HZ).ge, (ju HZ).ge2, (ju HZ).ne⟩; clear hb5)
   | (refine bx_st rfl 31 (.tmp 6) _ rfl b2 (gc g0 y0) _ rfl rfl (ju HZ).row2 (zP _ _) rfl (gc_one _ _) ?_; intro w9 hr9 hc9; have HR9 := jd (aI hr9 (bel_off (ju HZ).bel hc9 (ju HZ).ge2)); clear hr9 hc9))
  exact bodyPost_ret (res2 (p := 6) (q := 7) rfl u31 (zP _ _) (ju HR9).1 _ _ rfl rfl) rfl ⟨Or.inr ⟨trivial, rfl⟩, (ju HR9).2⟩
def srt (l : List Int) : List Int := Lib.compact (l.mergeSort fun x y => decide (x ≤ y))
def others (id : Int) (l : List Int) : List Int := l.filter fun y => !(y == id)
theorem aids_ris : ∀ (l : List Int) (b : Int), aids b l = true → (∀ x ∈ l, b < x) ∧ Ris l
 | [], _, _ => ⟨fun x hx => (by cases hx), List.Pairwise.nil⟩
 | x :: l, b, h => by
  unfold aids at h
  simp only [Bool.and_eq_true, Bool.not_eq_true', decide_eq_false_iff_not] at h
  obtain ⟨h1, h2⟩ := aids_ris l x h.2
  refine ⟨fun y hy => ?_, List.pairwise_cons.2 ⟨h1, h2⟩⟩
  rcases List.mem_cons.1 hy with e | e
  ·rw [e]; omega
  ·have := h1 y e; omega
end Go.Proofs.YthekbhliokcpcaaGreat
