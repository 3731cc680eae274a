/- An answer to entries comes to any member that has no readings. -/
import Derived.Test.YthekbhliokcpcaaGreatT22
import Derived.Test.YthekbhliokcpcaaGreatT25
import Derived.Test.YthekbhliokcpcaaGreatT21
namespace Go.Proofs.YthekbhliokcpcaaGreat
open Go.RowKit Go.Maps Go.Sort
theorem fol_ld_run {o : Oper} {a : Act} {w : World} {base : Nat} {s : GP} {x : Px} {f : Int × Int × Int} (y : Operand) (ho : o.op = .load 79 y) (g i : Nat) (hx : a.eval y = .pointer (some ⟨g, i * 3, none⟩)) (hf : E65.O base w (.slice x.aF s.fol.length x.cF) s.fol) (hg : x.aF = some ⟨g, 0, none⟩) (hi : i < s.fol.length) (e : s.fol[i] = f) : (execOp a.eval o).run Tryz.prog w = .ok (.value (.agg (encF f).toArray)) w := by
 rw [hg] at hf
 exact el_ld_run (E := E65) y ho g i hx hf hi Tryz.underlying79 (encF f).toArray (by rw [e]; rfl)
theorem one_runM {o : Oper} {a : Act} {w : World} (x : Operand) (ho : o.op = .buildSlice 47 1 #[(0, x)]) {m : GM} {mx : GX} (hx : a.eval x = .agg (mg m mx)) : (execOp a.eval o).run Tryz.prog w = .ok (.value (.slice (some ⟨w.heap.size, 0, none⟩) 1 1)) (w.alloc (.cells (mg m mx) 87)) := by
 have hrun := run_one EMg w (mg m mx) rfl (by show ¬ 1 * 12 > 2 ^ 24; decide)
 unfold execOp
 have hrun2 : (Instr.buildSlice 47 1 #[(0, .agg (mg m mx))]).run Tryz.prog w = .ok (.slice (some ⟨w.heap.size, 0, none⟩) 1 1) (w.alloc (.cells (mg m mx) 87)) := hrun
 simp only [ho, List.map_toArray, List.map_cons, List.map_nil, hx, Sem.run_bind, Sem.run_pure, Result.andThen_ok, hrun2]
theorem ne_kindG {w : World} {p q : Nat} {c d : Array Value} {t u : TypeId} (h : w.heap[p]? = some (.cells c t)) (h2 : w.heap[q]? = some (.cells d u)) (hn : t ≠ u) : p ≠ q := fun e => by
 rw [e, h2] at h
 injection (Option.some.inj h) with _ h3
 exact hn h3.symm
theorem Aq.back {W0 W w : World} {b b2 b3 : Nat} {s : GP} {x : Px} {m : GM} {y : GX} (h : Aq W w b b2 b3 s x m y) (hW : Bel W0 W) : Aq W0 w b b2 b3 s x m y := ⟨h.row, h.rm, h.row2, hW.trans h.bel, Nat.le_trans hW.size h.ge, Nat.le_trans hW.size h.ge2, h.ne, h.ne3, h.ne4⟩
structure Fw (W0 w : World) (b b2 b3 : Nat) (s : GP) (x : Px) (m : GM) (y : GX) : Prop where
 aq : Aq W0 w b b2 b3 s x m y
 gt : Gt w s x
 fo : E65.O W0.heap.size w (.slice x.aF s.fol.length x.cF) s.fol
structure Fz (W0 W : World) (s : GP) (x : Px) : Prop where
 hW : Bel W0 W
 gt : Gt W s x
 fo : E65.O W0.heap.size W (.slice x.aF s.fol.length x.cF) s.fol
section
variable {W0 W w w' : World} {b b2 b3 : Nat} {s s' : GP} {x : Px} {m mm : GM} {y mx : GX}
theorem Fz.boxes (h : Fz W0 W s x) (ha : Aq W w b b2 b3 s x m y) : Fw W0 w b b2 b3 s x m y := ⟨ha.back h.hW, h.gt.bel ha.bel, h.fo.bel ha.bel⟩
theorem Fw.next (h : Fw W0 w b b2 b3 s x m y) (hb : Bel w w') : Fw W0 w' b b2 b3 s x m y := ⟨h.aq.next hb, h.gt.bel hb, h.fo.bel hb⟩
theorem Fw.out (h : Fw W0 w b b2 b3 s x m y) : (w.setRow b2 (gc s x)).heap[b2]? = some (.cells (gc s x) 31) ∧ Gt (w.setRow b2 (gc s x)) s x ∧ Bel W0 (w.setRow b2 (gc s x)) := by
 obtain ⟨s2, x2, h2⟩ := h.aq.row2
 have hc := ch_row (c' := gc s x) h2
 exact ⟨hc.1, h.gt.box h2 hc.2, bel_off h.aq.bel hc.2 h.aq.ge2⟩
theorem Fw.st (h : Fw W0 w b b2 b3 s x m y) : Fw W0 (w.setRow b2 (gc s x)) b b2 b3 s x m y := by
 obtain ⟨s2, x2, h2⟩ := h.aq.row2
 have hc := ch_row (c' := gc s x) h2
 exact ⟨⟨hc.2.row h.aq.row h.aq.ne.symm, hc.2.row h.aq.rm h.aq.ne4, ⟨_, _, hc.1⟩, bel_off h.aq.bel hc.2 h.aq.ge2, h.aq.ge, h.aq.ge2, h.aq.ne, h.aq.ne3, h.aq.ne4⟩, h.gt.box h2 hc.2, h.fo.box h2 (by decide) hc.2⟩
theorem Fw.outM {bs : Nat} {v : Value} {ms : List GM} (h : Fw W0 w b b2 b3 s x m y) (hm : Ms bs w v ms) : Ms bs (w.setRow b2 (gc s x)) v ms := by
 obtain ⟨s2, x2, h2⟩ := h.aq.row2
 exact hm.box h2 (ch_row (c' := gc s x) h2).2
theorem Ms.one {bs : Nat} (hb : bs ≤ w.heap.size) (h : GwT w mm mx) (hn : Nm bs mm mx) : Ms bs (w.alloc (.cells (mg mm mx) 87)) (.slice (some ⟨w.heap.size, 0, none⟩) 1 1) [mm] :=
 ⟨[(mm, mx)], rfl, (El.O.one (E := EMg) w (mm, mx)).mono hb, fun z hz => by rw [List.mem_singleton.1 hz]; exact ⟨h.bel ((Bel.refl w).alloc _), hn⟩⟩
theorem Fw.fol (h : Fw W0 w b b2 b3 s x m y) {g : Nat} (hg : x.aF = some ⟨g, 0, none⟩) {F' : List (Int × Int × Int)} (hl : F'.length = s.fol.length) (ho : E65.O W0.heap.size w' (.slice x.aF s.fol.length x.cF) F') (hc : Ch (fun k => k = g) w w') : Fw W0 w' b b2 b3 { s with fol := F' } x m y := by
 have hf := h.fo
 rw [hg] at hf
 obtain ⟨cu, hcu⟩ := hf.block (k := g) rfl
 have hge := (hf.lt (k := g) rfl).1
 obtain ⟨s2, x2, h2⟩ := h.aq.row2
 have e : gc { s with fol := F' } x = gc s x := by unfold gc; simp only [hl]
 have hG := h.gt
 refine ⟨⟨?_, hc.row h.aq.rm (ne_kindG h.aq.rm hcu (by decide)), ⟨s2, x2, hc.row h2 (ne_kindG h2 hcu (by decide))⟩, bel_off h.aq.bel hc hge, h.aq.ge, h.aq.ge2, h.aq.ne, h.aq.ne3, h.aq.ne4⟩, ?_, ?_⟩
 ·rw [e]; exact hc.row h.aq.row (ne_kindG h.aq.row hcu (by decide))
 ·exact ⟨hG.m.box hcu (by decide) hc, hG.b.box hcu (by decide) hc, hG.l.box hcu (by decide) (by decide) hc, hG.v.box hcu (by decide) hc, SlT.of (by show E65.O W0.heap.size w' (.slice x.aF s.fol.length x.cF) F'; exact ho), hG.r.box hcu (by decide) (by decide) hc⟩
 ·show E65.O W0.heap.size w' (.slice x.aF F'.length x.cF) F'
  rw [hl]; exact ho
theorem Fw.adv (h : Fw W0 w b b2 b3 s x m y) (c : Int) (hr : w'.heap[b]? = some (.cells (gc { s with commit := c } x) 31)) (hc : Ch (fun k => k = b) w w') : Fw W0 w' b b2 b3 { s with commit := c } x m y := by
 have hG := h.gt.box h.aq.row hc
 exact ⟨h.aq.set hr hc, ⟨hG.m, hG.b, hG.l, hG.v, hG.f, hG.r⟩, h.fo.box h.aq.row (by decide) hc⟩
theorem nodup_at {F : List (Int × Int × Int)} (hnd : (F.map (·.1)).Nodup) {i j : Nat} (hi : i < F.length) (hj : j < F.length) (e : F[i].1 = F[j].1) : i = j := by
 refine Classical.byContradiction fun hne => ?_
 have h1 := List.pairwise_iff_getElem.1 hnd
 have hl : (F.map (·.1)).length = F.length := List.length_map _
 rcases Nat.lt_or_gt_of_ne hne with h2 | h2
 ·exact h1 i j (by omega) (by omega) h2 (by rw [List.getElem_map, List.getElem_map]; exact e)
 ·exact h1 j i (by omega) (by omega) h2 (by rw [List.getElem_map, List.getElem_map]; exact e.symm)
theorem setG_set (hnd : (s.fol.map (·.1)).Nodup) {i : Nat} (hi : i < s.fol.length) {f : Int × Int × Int} (e : s.fol[i].1 = f.1) : s.setF f = { s with fol := s.fol.set i f } := by
 unfold GP.setF
 congr 1
 refine List.ext_getElem (by simp) (fun j h1 h2 => ?_)
 have hj : j < s.fol.length := by simpa using h1
 rw [List.getElem_map, List.getElem_set]
 by_cases hij : i = j
 ·subst hij
  rw [if_pos e, if_pos rfl]
 ·rw [if_neg (fun h => hij (nodup_at hnd hi hj (by rw [e, h]))), if_neg hij]
theorem followAt_i {W : World} {s : GP} {x : Px} (h : Sl E65 W x.aF s.fol) (id : Int) (hn : s.fol.length ≤ 1000000) (hnd : (s.fol.map (·.1)).Nodup) {i : Nat} (hi : i < s.fol.length) (he : s.fol[i].1 = id) : Calls Tryz.prog 146 #[.agg (gc s x), .int .i64 id] W fun e w' => e = .returned (.int .i64 (i : Int)) ∧ Bel W w' := by
 refine (followAt_g h id hn).mono ?_
 rintro e w' ⟨v, rfl, hv, hb⟩
 refine ⟨?_, hb⟩
 rcases hv with ⟨_, h2⟩ | ⟨k, f, h1, h2, h3, _⟩
 ·exact absurd he (h2 _ (List.getElem_mem hi))
 ·obtain ⟨hk, e2⟩ := List.getElem?_eq_some_iff.1 h2
  rw [h1, nodup_at hnd hk hi (by rw [e2, h3, he])]
theorem followAt_n {W : World} {s : GP} {x : Px} (h : Sl E65 W x.aF s.fol) (id : Int) (hn : s.fol.length ≤ 1000000) (hq : s.fol.find? (fun g => g.1 == id) = none) : Calls Tryz.prog 146 #[.agg (gc s x), .int .i64 id] W fun e w' => ∃ v, e = .returned (.int .i64 v) ∧ Bel W w' ∧ v < 0 := by
 refine (followAt_g h id hn).mono ?_
 rintro e w' ⟨v, rfl, hv, hb⟩
 refine ⟨v, rfl, hb, ?_⟩
 rcases hv with ⟨h1, _⟩ | ⟨k, f, h1, h2, h3, _⟩
 ·exact h1
 ·have := List.find?_eq_none.1 hq f (List.mem_of_getElem? h2)
  simp [h3] at this
set_option maxRecDepth 100000 in
set_option maxHeartbeats 4000000 in
theorem ackn_g {W : World} {s : GP} {x : Px} {m : GM} {y : GX} (hr : s.reads = []) : Calls Tryz.prog 219 #[.agg (gc s x), .agg (mg m y)] W fun e w' => e = .returned (.agg (gc s x)) ∧ Bel W w' := by
 have hr0 : s.reads.length = 0 := by rw [hr]; rfl
 have HR0 := jd hr0
 clear hr hr0
 go_enter Tryz.func219, Tryz.ntmps219
 go_wp2_with (first
  | go_skip
  | (refine bx_boxK 31 (.tmp 0) (by exact rfl) (by exact rfl) (gc s x) (by exact rfl) ?_; intro b w0 hr0 hs0 hb0; have HR1 := jd hr0; have HB0 := jd (aI hb0 hs0); clear hr0 hs0 hb0)
  | (refine bx_boxK 87 (.tmp 1) (by exact rfl) (by exact rfl) (mg m y) (by exact rfl) ?_; intro b3 w1 hr1 hs1 hb1; have HM0 := jd (aI hr1 hs1); have HB1 := jd hb1; clear hr1 hs1 hb1)
  | (refine bx_new rfl 31 rfl _ Tryz.zeroP ?_; intro b2 w2 hr2 hs2 hb2; have HZ := jd (Aq.mk0 (ju HB0).1 (ju HB0).2 (ju HR1) (ju HB1) (ju HM0).2 (ju HM0).1 hb2 hs2 hr2); clear hr2 hs2 hb2 HR1 HB0 HM0 HB1; have y17 := (Bg.of (ju HZ).row).c17; rw [ju HR0] at y17)
  | go_guarded)
 go_loopw [12] (fun vk wr => vk = .int .i64 0 ∧ wr = w2) (fun vk _ => 0)
 case atStart => exact ⟨rfl, rfl⟩
 case round =>
  obtain ⟨rfl, rfl⟩ := hrel
  go_wp2_with (first
   | go_skip
   | (refine bx_ldK 31 _ (by exact rfl) b (by exact rfl) (by exact rfl) _ _ (ju HZ).row Tryz.underlying31 (zP s x) ?_)
   | go_guarded
   | (obtain ⟨s2, x2, h2⟩ := (ju HZ).row2; refine bx_st rfl 31 _ _ rfl b2 (gc s x) _ rfl rfl h2 (zP _ _) rfl (gc_one _ _) ?_; intro w9 hr9 hc9; have HR9 := jd (aI hr9 (bel_off (ju HZ).bel hc9 (ju HZ).ge2)); clear hr9 hc9 h2))
  exact bodyPost_ret (res1 (p := 4) rfl Tryz.underlying31 (zP _ _) (ju HR9).1 _ rfl) rfl ⟨rfl, (ju HR9).2⟩
set_option maxRecDepth 100000 in
set_option maxHeartbeats 8000000 in
theorem heard_no (h : Fz W0 W s x) (hcap : Lc W0.heap.size x s.log.length) (hF : ∀ w1, Bel W w1 → Calls Tryz.prog 146 #[.agg (gc s x), .int .i64 m.frm] w1 fun e w' => ∃ v', e = .returned (.int .i64 v') ∧ Bel w1 w' ∧ (m.term = s.term → v' < 0)) : Calls Tryz.prog 180 #[.agg (gc s x), .agg (mg m y)] W fun e w' => ∃ x' aA cA, e = .returned (.tuple #[.agg (gc s x'), .slice aA 0 cA]) ∧ Gt w' s x' ∧ Lc W0.heap.size x' s.log.length ∧ Ms W0.heap.size w' (.slice aA 0 cA) [] ∧ Bel W0 w' := by
 have HP := jd h
 have HF := jd hF
 have HCP := jd hcap
 clear h hF hcap
 by_cases ht : m.term = s.term
 ·have hne : (m.term != s.term) = false := by simp [ht]
  have HT := jd ht
  clear ht
  go_enter Tryz.func180, Tryz.ntmps180
  go_wp2_with (first
   | go_skip
   | (refine bx_boxK 31 (.tmp 0) (by exact rfl) (by exact rfl) (gc s x) (by exact rfl) ?_; intro b w0 hr0 hs0 hb0; have HR0 := jd hr0; have HB0 := jd (aI hb0 hs0); clear hr0 hs0 hb0)
   | (refine bx_boxK 87 (.tmp 1) (by exact rfl) (by exact rfl) (mg m y) (by exact rfl) ?_; intro b3 w1 hr1 hs1 hb1; have HM0 := jd (aI hr1 hs1); have HB1 := jd hb1; clear hr1 hs1 hb1)
   | (refine bx_new rfl 31 rfl _ Tryz.zeroP ?_; intro b2 w2 hr2 hs2 hb2; have hz0 := Aq.mk0 (ju HB0).1 (ju HB0).2 (ju HR0) (ju HB1) (ju HM0).2 (ju HM0).1 hb2 hs2 hr2; have HWZ := jd hz0.bel; have HZ := jd ((ju HP).boxes hz0); have y1 := (Mb2.of (ju HZ).aq.rm).c1; clear hr2 hs2 hb2 HR0 HB0 HM0 HB1 hz0)
   | (refine bx_ldK 31 _ (by exact rfl) b (by exact rfl) (by exact rfl) _ _ (ju HZ).aq.row Tryz.underlying31 (zP _ _) ?_)
   | (go_at_call 146; refine ((ju HF) _ (ju HWZ)).mono ?_; rintro e w6 ⟨v6, rfl, hb6, hv6⟩; replace HZ := jd ((ju HZ).next hb6); have hv := hv6 (ju HT); have hd6 : decide (v6 < 0) = true := decide_eq_true hv; have y3 := (Mb2.of (ju HZ).aq.rm).c3; have y2 := (Bg.of (ju HZ).aq.row).c2; clear hb6 hv6 HF)
   | go_guarded
   | (obtain ⟨s2, x2, h2⟩ := (ju HZ).aq.row2; refine bx_st rfl 31 (.tmp 4) _ rfl b2 (gc s x) _ rfl rfl h2 (zP _ _) rfl (gc_one _ _) ?_; intro w9 hr9 hc9; have HR9 := jd (aI hr9 (aI ((ju HZ).gt.box h2 hc9) (bel_off (ju HZ).aq.bel hc9 (ju HZ).aq.ge2))); clear hr9 hc9 h2))
  exact bodyPost_ret (res2 (p := 4) (q := 5) rfl Tryz.underlying31 (zP _ _) (ju HR9).1 _ _ rfl rfl) rfl ⟨_, none, 0, rfl, (ju HR9).2.1, ju HCP, Ms.nil _ _, (ju HR9).2.2⟩
 ·have hne : (m.term != s.term) = true := by simp [ht]
  clear ht
  go_enter Tryz.func180, Tryz.ntmps180
  go_wp2_with (first
   | go_skip
   | (refine bx_boxK 31 (.tmp 0) (by exact rfl) (by exact rfl) (gc s x) (by exact rfl) ?_; intro b w0 hr0 hs0 hb0; have HR0 := jd hr0; have HB0 := jd (aI hb0 hs0); clear hr0 hs0 hb0)
   | (refine bx_boxK 87 (.tmp 1) (by exact rfl) (by exact rfl) (mg m y) (by exact rfl) ?_; intro b3 w1 hr1 hs1 hb1; have HM0 := jd (aI hr1 hs1); have HB1 := jd hb1; clear hr1 hs1 hb1)
   | (refine bx_new rfl 31 rfl _ Tryz.zeroP ?_; intro b2 w2 hr2 hs2 hb2; have hz0 := Aq.mk0 (ju HB0).1 (ju HB0).2 (ju HR0) (ju HB1) (ju HM0).2 (ju HM0).1 hb2 hs2 hr2; have HWZ := jd hz0.bel; have HZ := jd ((ju HP).boxes hz0); have y1 := (Mb2.of (ju HZ).aq.rm).c1; clear hr2 hs2 hb2 HR0 HB0 HM0 HB1 hz0)
   | (refine bx_ldK 31 _ (by exact rfl) b (by exact rfl) (by exact rfl) _ _ (ju HZ).aq.row Tryz.underlying31 (zP _ _) ?_)
   | (go_at_call 146; refine ((ju HF) _ (ju HWZ)).mono ?_; rintro e w6 ⟨v6, rfl, hb6, hv6⟩; replace HZ := jd ((ju HZ).next hb6); have y3 := (Mb2.of (ju HZ).aq.rm).c3; have y2 := (Bg.of (ju HZ).aq.row).c2; clear hb6 hv6 HF)
   | go_guarded
   | (obtain ⟨s2, x2, h2⟩ := (ju HZ).aq.row2; refine bx_st rfl 31 (.tmp 4) _ rfl b2 (gc s x) _ rfl rfl h2 (zP _ _) rfl (gc_one _ _) ?_; intro w9 hr9 hc9; have HR9 := jd (aI hr9 (aI ((ju HZ).gt.box h2 hc9) (bel_off (ju HZ).aq.bel hc9 (ju HZ).aq.ge2))); clear hr9 hc9 h2))
  exact bodyPost_ret (res2 (p := 4) (q := 5) rfl Tryz.underlying31 (zP _ _) (ju HR9).1 _ _ rfl rfl) rfl ⟨_, none, 0, rfl, (ju HR9).2.1, ju HCP, Ms.nil _ _, (ju HR9).2.2⟩
set_option maxRecDepth 100000 in
set_option maxHeartbeats 8000000 in
theorem heard_bad (h : Fz W0 W s x) (h0 : 0 ≤ s.base) (h62 : s.base ≤ 4611686018427387904) (hll : s.log.length ≤ 900000) (hcap : Lc W0.heap.size x s.log.length) (hlm : ∀ e ∈ s.log, e.m.length ≤ 17592186044416) (hBl : s.B.length ≤ 17592186044416) (hfl : s.fol.length ≤ 64) (hfo : ∀ f ∈ s.fol, 1 ≤ f.2.1 ∧ f.2.1 ≤ s.lastI + 1 ∧ f.2.2 < f.2.1 ∧ 0 ≤ f.2.2) (hnd : (s.fol.map (·.1)).Nodup) (hix : 0 ≤ m.index ∧ m.index ≤ 4611686018427387904) (ht : m.term = s.term) (ho : m.ok = false) {i : Nat} (hi : i < s.fol.length) (hq : s.fol[i].1 = m.frm) (hfd : s.fol.find? (fun g => g.1 == m.frm) = some s.fol[i]) : Calls Tryz.prog 180 #[.agg (gc s x), .agg (mg m y)] W fun e w' => ∃ x' aA cA, e = .returned (.tuple #[.agg (gc (s.takeHeard m).1 x'), .slice aA (s.takeHeard m).2.length cA]) ∧ Gt w' (s.takeHeard m).1 x' ∧ Lc W0.heap.size x' (s.takeHeard m).1.log.length ∧ Ms W0.heap.size w' (.slice aA (s.takeHeard m).2.length cA) (s.takeHeard m).2 ∧ Bel W0 w' := by
 obtain ⟨r, hrr⟩ : ∃ r, r = s.takeHeard m := ⟨_, rfl⟩
 rw [← hrr]
 unfold GP.takeHeard at hrr
 rw [if_pos ht, hfd] at hrr
 simp only [ho, Bool.false_eq_true, if_false] at hrr
 have hI : s.lastI = s.base + s.log.length := rfl
 have hfi := hfo s.fol[i] (List.getElem_mem hi)
 obtain ⟨nx, hnx⟩ : ∃ nx, nx = max (s.fol[i].2.2 + 1) (min (s.fol[i].2.1 - 1) (m.index + 1)) := ⟨_, rfl⟩
 rw [← hnx] at hrr
 have hbd : 1 ≤ nx ∧ nx ≤ s.lastI + 1 ∧ s.fol[i].2.2 < nx := by omega
 have hse := setG_set (f := (s.fol[i].1, nx, s.fol[i].2.2)) hnd hi rfl
 obtain ⟨g, hga⟩ : ∃ g, x.aF = some ⟨g, 0, none⟩ := by
  obtain ⟨a', c', g', e, h1, _⟩ := h.fo.shape
  injection e with e1
  exact ⟨g', by rw [e1]; exact h1 (by omega)⟩
 have HGA := jd hga
 have HP := jd h
 have HFo : Hid (∀ w1, Bel W w1 → Calls Tryz.prog 146 #[.agg (gc s x), .int .i64 m.frm] w1 fun e w' => e = .returned (.int .i64 (i : Int)) ∧ Bel w1 w') := jd (fun w1 hb => followAt_i ((h.gt.bel hb).f.1) m.frm (by omega) hnd hi hq)
 have HLa : Hid (∀ w1, Bel W w1 → Calls Tryz.prog 79 #[.agg (gc s x)] w1 fun e w' => e = .returned (.tuple #[.int .u64 s.lastI, .int .u64 s.lastT]) ∧ Bel w1 w') := jd (fun w1 hb => last_g (h.gt.bel hb).l.sl h0 h62 (by omega))
 have hir : (i : Int) < s.fol.length := by omega
 have hi0 : ¬ ((i : Int) < 0) := by omega
 have hd6 : decide ((i : Int) < 0) = false := decide_eq_false hi0
 obtain ⟨ff, hff⟩ : ∃ ff, ff = (s.fol[i].1, nx, s.fol[i].2.2) := ⟨_, rfl⟩
 rw [← hff] at hrr hse
 obtain ⟨s5, hs5e⟩ : ∃ s5, s5 = s.setF ff := ⟨_, rfl⟩
 rw [← hs5e] at hrr hse
 obtain ⟨mm, hmm⟩ : ∃ mm, mm = s5.snd ff := ⟨_, rfl⟩
 rw [← hmm] at hrr
 have HMs : Hid (∀ w1, Gt w1 s5 x → W0.heap.size ≤ w1.heap.size → Calls Tryz.prog 131 #[.agg (gc s5 x), .agg (encF ff).toArray] w1 fun e w' => ∃ mx, e = .returned (.agg (mg mm mx)) ∧ GwT w' mm mx ∧ Nm W0.heap.size mm mx ∧ Bel w1 w') := jd (fun w1 hp hwz => by
  rw [hmm]
  refine (message_g (s := s5) (x := x) ⟨hp.gp, by rw [hse]; exact h0, by rw [hse]; exact h62, by rw [hse]; show s.log.length ≤ 1000000; omega, by rw [hse]; exact hcap.1, by rw [hse]; exact hlm, by rw [hse]; exact hBl, fun f hf => ?_⟩ ff (by rw [hff, hse]; exact ⟨hbd.1, hbd.2.1⟩)).mono (fun e w' ⟨mx, e1, e2, e3, e4⟩ => ⟨mx, e1, e2, e3.mono hwz, e4⟩)
  rw [hse] at hf ⊢
  rcases List.mem_or_eq_of_mem_set hf with h9 | h9
  ·exact ⟨(hfo f h9).1, (hfo f h9).2.1⟩
  ·rw [h9, hff]; exact ⟨hbd.1, hbd.2.1⟩)
 have HIF : Hid (i < s5.fol.length) := jd (by rw [hse]; simpa using hi)
 have HFE : Hid (s5.fol[i]'(ju HIF) = ff) := jd (by simp [hse])
 have HR := jd hrr
 have HCP : Hid (Lc W0.heap.size x s5.log.length) := jd (by rw [hse]; exact hcap)
 have HSE : Hid (s5 = { s with fol := s.fol.set i ff }) := jd hse
 have HFF := jd hff
 have hw1 : IntKind.u64.wrap (s.fol[i].2.2 + 1) = s.fol[i].2.2 + 1 := wrapU (by omega) (by omega)
 have hw2 : IntKind.u64.wrap (s.fol[i].2.1 - 1) = s.fol[i].2.1 - 1 := wrapU (by omega) (by omega)
 have hw3 : IntKind.u64.wrap (m.index + 1) = m.index + 1 := wrapU (by omega) (by omega)
 have hmx : max (s.fol[i].2.2 + 1) (min (s.fol[i].2.1 - 1) (m.index + 1)) = nx := hnx.symm
 have hne : (m.term != s.term) = false := by simp [ht]
 clear h h0 h62 hll hcap hlm hBl hfl hfo hnd hix ht hq hfd hrr hI hfi hbd hse hga hff hs5e hmm hnx
 obtain ⟨f1, hf1⟩ : ∃ f1, f1 = s.fol[i].1 := ⟨_, rfl⟩
 obtain ⟨f2, hf2⟩ : ∃ f2, f2 = s.fol[i].2.1 := ⟨_, rfl⟩
 obtain ⟨f3, hf3⟩ : ∃ f3, f3 = s.fol[i].2.2 := ⟨_, rfl⟩
 rw [← hf2] at hw2 hmx
 rw [← hf3] at hw1 hmx
 have HF123 := jd (aI hf1 (aI hf2 hf3))
 clear hf1 hf2 hf3
 have HI := jd hi
 go_enter Tryz.func180, Tryz.ntmps180
 go_wp2_with (first
   | go_skip
   | (refine bx_boxK 31 (.tmp 0) (by exact rfl) (by exact rfl) (gc s x) (by exact rfl) ?_; intro b w0 hr0 hs0 hb0; have HR0 := jd hr0; have HB0 := jd (aI hb0 hs0); clear hr0 hs0 hb0)
   | (refine bx_boxK 87 (.tmp 1) (by exact rfl) (by exact rfl) (mg m y) (by exact rfl) ?_; intro b3 w1 hr1 hs1 hb1; have HM0 := jd (aI hr1 hs1); have HB1 := jd hb1; clear hr1 hs1 hb1)
   | (refine bx_new rfl 31 rfl _ Tryz.zeroP ?_; intro b2 w2 hr2 hs2 hb2; have hz0 := Aq.mk0 (ju HB0).1 (ju HB0).2 (ju HR0) (ju HB1) (ju HM0).2 (ju HM0).1 hb2 hs2 hr2; have HWZ := jd hz0.bel; have HZ := jd ((ju HP).boxes hz0); have y1 := (Mb2.of (ju HZ).aq.rm).c1; clear hr2 hs2 hb2 HR0 HB0 HM0 HB1 hz0)
   | (refine bx_ldK 31 _ (by exact rfl) b (by exact rfl) (by exact rfl) _ _ (ju HZ).aq.row Tryz.underlying31 (zP _ _) ?_)
   | (go_at_call 146; refine ((ju HFo) _ (ju HWZ)).mono ?_; rintro e w6 ⟨rfl, hb6⟩; replace HZ := jd ((ju HZ).next hb6); replace HWZ := jd ((ju HWZ).trans hb6); have y3 := (Mb2.of (ju HZ).aq.rm).c3; have y2 := (Bg.of (ju HZ).aq.row).c2; clear hb6 HFo)
   | (go_at_call 79; refine ((ju HLa) _ (ju HWZ)).mono ?_; rintro e w7 ⟨rfl, hb7⟩; replace HZ := jd ((ju HZ).next hb7); replace HWZ := jd ((ju HWZ).trans hb7); have y15 := (Bg.of (ju HZ).aq.row).c15; rw [ju HGA] at y15; have y8 := (Mb2.of (ju HZ).aq.rm).c8; rw [ho] at y8; clear hb7 HLa)
   | go_guarded)
 have hf7 := (ju HZ).fo
 rw [ju HGA] at hf7
 obtain ⟨r0, r1, r2⟩ := E65_cell hf7.row i (ju HI)
 have z0 : w7.frozen? ⟨g, i * 3 + 1, none⟩ = false := World.ownsRow.frozenAt hf7 _
 rw [← (ju HF123).2.1] at r1
 rw [← (ju HF123).2.2] at r2
 rw [Nat.zero_add] at r1 r2
 have y4 := (Mb2.of (ju HZ).aq.rm).c4
 clear hf7 r0 y2 y3 y8 y15
 go_region
 have hS8 : Hid (Fw W0 (w7.setCell ⟨g, i * 3 + 1, none⟩ (.int .u64 nx)) b b2 b3 s5 x m y) := jd (by
  rw [ju HSE, ju HFF]
  have hf7 := (ju HZ).fo
  rw [ju HGA] at hf7
  refine (ju HZ).fol (ju HGA) (by simp) ?_ (Ch.set (ad := ⟨g, i * 3 + 1, none⟩) (Ch.refl (fun k => k = g) w7) (Or.inl rfl) _)
  rw [ju HGA]
  exact hf7.cell i (ju HI) 1 (by decide) _ _ rfl)
 have HL : Hid (Fw W0 (w7.setCell ⟨g, i * 3 + 1, none⟩ (.int .u64 nx)).drew b b2 b3 s5 x m y) := jd ((ju hS8).next (Bel.refl _).drew)
 clear hS8 HZ HWZ r1 r2 z0 y4 y1
 generalize (w7.setCell ⟨g, i * 3 + 1, none⟩ (.int .u64 nx)).drew = w8 at *
 go_wp2_with fail
 have hSd : Fw W0 w8.drew b b2 b3 s5 x m y := (ju HL).next (Bel.refl w8).drew
 refine wp_region_held_drew (S := fun w => Fw W0 w b b2 b3 s5 x m y) Tryz.follows hSd (fun hS => ?_)
 clear hSd
 generalize w8.drew = wd at *
 refine any_ldP (i := 0) (b := b) rfl (by kernel_rfl) (fun _ _ _ h => h) rfl hS rfl (by go_simp) (fun w hw => hw.aq.row) ?_
 refine any_ldP (i := 1) (b := b) rfl (by kernel_rfl) (fun _ _ _ h => h) rfl hS rfl (by go_simp) (fun w hw => hw.aq.row) ?_
 refine any_take (i := 2) (v := .pointer (some ⟨g, i * 3, none⟩)) rfl (by kernel_rfl) (fun _ _ _ h => h) rfl hS (fun w hw => by go_simp) ?_
 refine any_take (i := 3) (v := .pointer (some ⟨g, i * 3, none⟩)) rfl (by kernel_rfl) (fun _ _ _ h => h) rfl hS (fun w hw => by go_simp) ?_
 refine any_take (i := 4) (v := .agg (encF ff).toArray) rfl (by kernel_rfl) (fun _ _ _ h => h) rfl hS (fun w hw => fol_ld_run (.tmp 57) (by exact rfl) g i (by go_simp) hw.fo (ju HGA) (ju HIF) (ju HFE)) ?_
 refine any_call (i := 5) (by kernel_rfl) rfl rfl (by go_simp) ((ju HMs) wd hS.gt hS.aq.bel.size) ?_
 rintro e w1 ⟨mx, rfl, ho6, hn6, hb6⟩
 have hS1 := hS.next hb6
 refine ⟨_, rfl, hS1, ?_⟩
 have hB1 := hS1.aq.bel.size
 clear hb6 hS
 obtain ⟨s2, x2, h2⟩ := hS1.aq.row2
 have hA := (Bel.refl w1).alloc (.cells (mg mm mx) 87)
 have hSA := hS1.next hA
 have hO := hS1.out
 have hSB := hS1.st
 refine any_two (i := 6) (j := 7) (vi := .slice (some ⟨w1.heap.size, 0, none⟩) 1 1) (wi := w1.alloc (.cells (mg mm mx) 87)) (wj := w1.setRow b2 (gc s5 x)) (by kernel_rfl) (by exact rfl) (by exact rfl) (by exact rfl) (by exact rfl) (one_runM (.tmp 59) (by exact rfl) (by go_simp)) (st_run (s := s5) (z := x) (.tmp 4) (.tmp 54) (by exact rfl) (by go_simp) (by go_simp) h2) ⟨hSA, ?_⟩ ⟨hSB, ?_⟩
 ·have hO2 := hSA.out
  have HQ := jd (aI hO2 (hSA.outM (Ms.one hB1 ho6 hn6)))
  obtain ⟨s3, x3, h3⟩ := hSA.aq.row2
  have hSC := hSA.st
  refine any_skip (i := 7) (w' := (w1.alloc (.cells (mg mm mx) 87)).setRow b2 (gc s5 x)) (by kernel_rfl) rfl rfl (st_run (s := s5) (z := x) (.tmp 4) (.tmp 54) (by exact rfl) (by go_simp) (by go_simp) h3) ⟨hSC, ?_⟩
  clear hSA hSB hO2 hO hA h2 h3 ho6 hS1
  generalize (w1.alloc (.cells (mg mm mx) 87)).setRow b2 (gc s5 x) = we at *
  refine any_do (i := 8) (v := .slice (some ⟨w1.heap.size, 0, none⟩) 1 1) (w' := we) (by kernel_rfl) rfl rfl (by go_simp) ⟨hSC, ?_⟩
  refine wpAnyH_done (by kernel_rfl) ?_ _
  clear hSC
  simp [Act.put]
  go_wp2_with fail
  rw [ju HR]
  exact bodyPost_ret (res2 (p := 4) (q := 5) rfl Tryz.underlying31 (zP _ _) (ju HQ).1.1 _ _ rfl rfl) rfl ⟨_, _, _, rfl, (ju HQ).1.2.1, ju HCP, (ju HQ).2, (ju HQ).1.2.2⟩
 ·have ho7 : GwT (w1.setRow b2 (gc s5 x)) mm mx := ho6.box h2 (ch_row (c' := gc s5 x) h2).2
  clear hSA hA h2 ho6 hS1
  have hB2 := hO.2.2.size
  generalize w1.setRow b2 (gc s5 x) = we at *
  have hA2 := (Bel.refl we).alloc (.cells (mg mm mx) 87)
  have HQ := jd (aI (aI (hA2.row hO.1) (aI (hO.2.1.bel hA2) (hO.2.2.trans hA2))) (Ms.one hB2 ho7 hn6))
  have hSC := hSB.next hA2
  refine any_do (i := 6) (v := .slice (some ⟨we.heap.size, 0, none⟩) 1 1) (w' := we.alloc (.cells (mg mm mx) 87)) (by kernel_rfl) rfl rfl (one_runM (.tmp 59) (by exact rfl) (by go_simp)) ⟨hSC, ?_⟩
  clear hSB hO ho7
  generalize we.alloc (.cells (mg mm mx) 87) = wf at *
  refine any_do (i := 8) (v := .slice (some ⟨we.heap.size, 0, none⟩) 1 1) (w' := wf) (by kernel_rfl) rfl rfl (by go_simp) ⟨hSC, ?_⟩
  refine wpAnyH_done (by kernel_rfl) ?_ _
  clear hSC
  simp [Act.put]
  go_wp2_with fail
  rw [ju HR]
  exact bodyPost_ret (res2 (p := 4) (q := 5) rfl Tryz.underlying31 (zP _ _) (ju HQ).1.1 _ _ rfl rfl) rfl ⟨_, _, _, rfl, (ju HQ).1.2.1, ju HCP, (ju HQ).2, (ju HQ).1.2.2⟩
set_option maxRecDepth 100000 in
set_option maxHeartbeats 8000000 in
theorem heard_ok (h : Fz W0 W s x) (h0 : 0 ≤ s.base) (h62 : s.base ≤ 4611686018427387904) (hll : s.log.length ≤ 900000) (hcap : Lc W0.heap.size x s.log.length) (hlm : ∀ e ∈ s.log, e.m.length ≤ 17592186044416) (hBl : s.B.length ≤ 17592186044416) (hM : s.M.length ≤ 64) (hfl : s.fol.length ≤ 64) (hfo : ∀ f ∈ s.fol, 1 ≤ f.2.1 ∧ f.2.1 ≤ s.lastI + 1 ∧ f.2.2 < f.2.1 ∧ 0 ≤ f.2.2) (hnd : (s.fol.map (·.1)).Nodup) (hre : s.reads = []) (ht : m.term = s.term) (ho : m.ok = true) {i : Nat} (hi : i < s.fol.length) (hq : s.fol[i].1 = m.frm) (hfd : s.fol.find? (fun g => g.1 == m.frm) = some s.fol[i]) : Calls Tryz.prog 180 #[.agg (gc s x), .agg (mg m y)] W fun e w' => ∃ x' aA cA, e = .returned (.tuple #[.agg (gc (s.takeHeard m).1 x'), .slice aA (s.takeHeard m).2.length cA]) ∧ Gt w' (s.takeHeard m).1 x' ∧ Lc W0.heap.size x' (s.takeHeard m).1.log.length ∧ Ms W0.heap.size w' (.slice aA (s.takeHeard m).2.length cA) (s.takeHeard m).2 ∧ Bel W0 w' := by
 obtain ⟨r, hrr⟩ : ∃ r, r = s.takeHeard m := ⟨_, rfl⟩
 rw [← hrr]
 unfold GP.takeHeard at hrr
 rw [if_pos ht, hfd] at hrr
 simp only [ho, if_true] at hrr
 have hI : s.lastI = s.base + s.log.length := rfl
 have hfi := hfo s.fol[i] (List.getElem_mem hi)
 obtain ⟨mv, hmv⟩ : ∃ mv, mv = max s.fol[i].2.2 (min m.index s.lastI) := ⟨_, rfl⟩
 rw [← hmv] at hrr
 have hbd : 0 ≤ mv ∧ mv ≤ s.lastI := by omega
 have hse := setG_set (f := (s.fol[i].1, mv + 1, mv)) hnd hi rfl
 obtain ⟨g, hga⟩ : ∃ g, x.aF = some ⟨g, 0, none⟩ := by
  obtain ⟨a', c', g', e, h1, _⟩ := h.fo.shape
  injection e with e1
  exact ⟨g', by rw [e1]; exact h1 (by omega)⟩
 have HGA := jd hga
 have HP := jd h
 have HFo : Hid (∀ w1, Bel W w1 → Calls Tryz.prog 146 #[.agg (gc s x), .int .i64 m.frm] w1 fun e w' => e = .returned (.int .i64 (i : Int)) ∧ Bel w1 w') := jd (fun w1 hb => followAt_i ((h.gt.bel hb).f.1) m.frm (by omega) hnd hi hq)
 have HLa : Hid (∀ w1, Bel W w1 → Calls Tryz.prog 79 #[.agg (gc s x)] w1 fun e w' => e = .returned (.tuple #[.int .u64 s.lastI, .int .u64 s.lastT]) ∧ Bel w1 w') := jd (fun w1 hb => last_g (h.gt.bel hb).l.sl h0 h62 (by omega))
 have hir : (i : Int) < s.fol.length := by omega
 have hi0 : ¬ ((i : Int) < 0) := by omega
 have hd6 : decide ((i : Int) < 0) = false := decide_eq_false hi0
 obtain ⟨ff, hff⟩ : ∃ ff, ff = (s.fol[i].1, mv + 1, mv) := ⟨_, rfl⟩
 rw [← hff] at hrr hse
 obtain ⟨s5, hs5e⟩ : ∃ s5, s5 = s.setF ff := ⟨_, rfl⟩
 rw [← hs5e] at hrr hse
 obtain ⟨cA5, hcA⟩ : ∃ c, c = s5.adv.commit := ⟨_, rfl⟩
 have hsc : s5.adv = { s5 with commit := cA5 } := by rw [hcA]; rfl
 obtain ⟨sA, hsA⟩ : ∃ sA, sA = s5.adv := ⟨_, rfl⟩
 rw [← hsA] at hrr hsc
 have hlA : sA.log = s5.log ∧ sA.fol = s5.fol ∧ sA.base = s5.base ∧ sA.B = s5.B ∧ sA.reads = s5.reads := by rw [hsA]; exact ⟨rfl, rfl, rfl, rfl, rfl⟩
 obtain ⟨mm, hmm⟩ : ∃ mm, mm = sA.snd ff := ⟨_, rfl⟩
 rw [← hmm] at hrr
 have hf5 : ∀ f ∈ s5.fol, 1 ≤ f.2.1 ∧ f.2.1 ≤ s.lastI + 1 ∧ 0 ≤ f.2.2 ∧ f.2.2 ≤ s.lastI := fun f hf => by
  rw [hse] at hf
  rcases List.mem_or_eq_of_mem_set hf with h9 | h9
  ·have := hfo f h9; omega
  ·rw [h9, hff]; show 1 ≤ mv + 1 ∧ mv + 1 ≤ s.lastI + 1 ∧ 0 ≤ mv ∧ mv ≤ s.lastI; omega
 have hmo : s5.have ≠ [] ∧ 0 ≤ most s5.have ∧ most s5.have ≤ 18446744073709551615 := by
  have hm5 : ∀ z ∈ s5.have, 0 ≤ z ∧ z ≤ s.lastI := fun z hz => by
   unfold GP.have at hz
   rcases List.mem_append.1 hz with hz | hz
   ·split at hz
    ·rw [List.mem_singleton.1 hz, hse]
     show 0 ≤ s.lastI ∧ s.lastI ≤ s.lastI
     omega
    ·cases hz
   ·obtain ⟨f, hf, rfl⟩ := List.mem_map.1 hz
    have := hf5 f hf
    exact ⟨this.2.2.1, this.2.2.2⟩
  have hn5 : s5.have ≠ [] := fun e => by
   unfold GP.have at e
   have e2 := (List.append_eq_nil_iff.1 e).2
   rw [hse] at e2
   have e3 := congrArg List.length e2
   simp at e3
   rw [e3] at hi
   simp at hi
  have h9 := hm5 _ (most_mem hn5)
  exact ⟨hn5, by omega, by omega⟩
 have HAd : Hid (∀ w1, Gt w1 s5 x → Calls Tryz.prog 72 #[.agg (gc s5 x)] w1 fun e w' => e = .returned (.agg (gc sA x)) ∧ Bel w1 w') := jd (fun w1 hp => by
  rw [hsA]
  exact adv_g hp.gp (by rw [hse]; exact hM) (by rw [hse]; exact h0) (by rw [hse]; exact h62) (by rw [hse]; show s.log.length ≤ 1000000; omega) (by rw [hse]; simpa using hfl) hmo.1 hmo.2)
 have HMs : Hid (∀ w1, Gt w1 sA x → W0.heap.size ≤ w1.heap.size → Calls Tryz.prog 131 #[.agg (gc sA x), .agg (encF ff).toArray] w1 fun e w' => ∃ mx, e = .returned (.agg (mg mm mx)) ∧ GwT w' mm mx ∧ Nm W0.heap.size mm mx ∧ Bel w1 w') := jd (fun w1 hp hwz => by
  rw [hmm]
  have hIA : sA.lastI = s.lastI := by unfold GP.lastI; rw [hlA.1, hlA.2.2.1, hse]
  refine (message_g (s := sA) (x := x) ⟨hp.gp, by rw [hlA.2.2.1, hse]; exact h0, by rw [hlA.2.2.1, hse]; exact h62, by rw [hlA.1, hse]; show s.log.length ≤ 1000000; omega, by rw [hlA.1, hse]; exact hcap.1, by rw [hlA.1, hse]; exact hlm, by rw [hlA.2.2.2.1, hse]; exact hBl, fun f hf => ?_⟩ ff (by rw [hff, hIA]; show 1 ≤ mv + 1 ∧ mv + 1 ≤ s.lastI + 1; omega)).mono (fun e w' ⟨mx, e1, e2, e3, e4⟩ => ⟨mx, e1, e2, e3.mono hwz, e4⟩)
  rw [hlA.2.1] at hf
  rw [hIA]
  exact ⟨(hf5 f hf).1, (hf5 f hf).2.1⟩)
 have HRE : Hid (sA.reads = []) := jd (by rw [hlA.2.2.2.2, hse]; exact hre)
 have HSC : Hid (sA = { s5 with commit := cA5 }) := jd hsc
 have HIF : Hid (i < sA.fol.length) := jd (by rw [hlA.2.1, hse]; simpa using hi)
 have HFE : Hid (sA.fol[i]'(ju HIF) = ff) := jd (by simp [hlA.2.1, hse])
 have HR := jd hrr
 have HCP : Hid (Lc W0.heap.size x sA.log.length) := jd (by rw [hlA.1, hse]; exact hcap)
 have HSE : Hid (s5 = { s with fol := s.fol.set i ff }) := jd hse
 have HFF := jd hff
 have hw1 : IntKind.u64.wrap (mv + 1) = mv + 1 := wrapU (by omega) (by omega)
 have hmx : max s.fol[i].2.2 (min m.index s.lastI) = mv := hmv.symm
 have hne : (m.term != s.term) = false := by simp [ht]
 clear h h0 h62 hll hcap hlm hBl hM hfl hfo hnd hre ht hq hfd hrr hI hfi hbd hse hga hff hs5e hmm hmv hsA hlA hsc hcA hf5 hmo
 obtain ⟨f1, hf1⟩ : ∃ f1, f1 = s.fol[i].1 := ⟨_, rfl⟩
 obtain ⟨f2, hf2⟩ : ∃ f2, f2 = s.fol[i].2.1 := ⟨_, rfl⟩
 obtain ⟨f3, hf3⟩ : ∃ f3, f3 = s.fol[i].2.2 := ⟨_, rfl⟩
 rw [← hf3] at hmx
 have HF123 := jd (aI hf1 (aI hf2 hf3))
 clear hf1 hf2 hf3
 obtain ⟨s4, hs4⟩ : ∃ s4 : GP, s4 = { s with fol := s.fol.set i (s.fol[i].1, s.fol[i].2.1, mv) } := ⟨_, rfl⟩
 have HS4 := jd hs4
 clear hs4
 have HI := jd hi
 generalize s.lastI = li at *
 go_enter Tryz.func180, Tryz.ntmps180
 go_wp2_with (first
   | go_skip
   | (refine bx_boxK 31 (.tmp 0) (by exact rfl) (by exact rfl) (gc s x) (by exact rfl) ?_; intro b w0 hr0 hs0 hb0; have HR0 := jd hr0; have HB0 := jd (aI hb0 hs0); clear hr0 hs0 hb0)
   | (refine bx_boxK 87 (.tmp 1) (by exact rfl) (by exact rfl) (mg m y) (by exact rfl) ?_; intro b3 w1 hr1 hs1 hb1; have HM0 := jd (aI hr1 hs1); have HB1 := jd hb1; clear hr1 hs1 hb1)
   | (refine bx_new rfl 31 rfl _ Tryz.zeroP ?_; intro b2 w2 hr2 hs2 hb2; have hz0 := Aq.mk0 (ju HB0).1 (ju HB0).2 (ju HR0) (ju HB1) (ju HM0).2 (ju HM0).1 hb2 hs2 hr2; have HWZ := jd hz0.bel; have HZ := jd ((ju HP).boxes hz0); have y1 := (Mb2.of (ju HZ).aq.rm).c1; clear hr2 hs2 hb2 HR0 HB0 HM0 HB1 hz0)
   | (refine bx_ldK 31 _ (by exact rfl) b (by exact rfl) (by exact rfl) _ _ (ju HZ).aq.row Tryz.underlying31 (zP _ _) ?_)
   | (go_at_call 146; refine ((ju HFo) _ (ju HWZ)).mono ?_; rintro e w6 ⟨rfl, hb6⟩; replace HZ := jd ((ju HZ).next hb6); replace HWZ := jd ((ju HWZ).trans hb6); have y3 := (Mb2.of (ju HZ).aq.rm).c3; have y2 := (Bg.of (ju HZ).aq.row).c2; clear hb6 HFo)
   | (go_at_call 79; refine ((ju HLa) _ (ju HWZ)).mono ?_; rintro e w7 ⟨rfl, hb7⟩; replace HZ := jd ((ju HZ).next hb7); replace HWZ := jd ((ju HWZ).trans hb7); have y15 := (Bg.of (ju HZ).aq.row).c15; rw [ju HGA] at y15; have y8 := (Mb2.of (ju HZ).aq.rm).c8; rw [ho] at y8; clear hb7 HLa)
   | go_guarded)
 have hf7 := (ju HZ).fo
 rw [ju HGA] at hf7
 obtain ⟨r0, r1, r2⟩ := E65_cell hf7.row i (ju HI)
 have z0 : w7.frozen? ⟨g, i * 3 + 2, none⟩ = false := World.ownsRow.frozenAt hf7 _
 rw [← (ju HF123).2.2] at r2
 rw [Nat.zero_add] at r2
 have y4 := (Mb2.of (ju HZ).aq.rm).c4
 clear hf7 r0 r1 y2 y3 y8 y15
 go_region
 have HL4 : Hid (Fw W0 (w7.setCell ⟨g, i * 3 + 2, none⟩ (.int .u64 mv)).drew b b2 b3 s4 x m y) := jd (by
  rw [ju HS4]
  have hf7 := (ju HZ).fo
  rw [ju HGA] at hf7
  refine Fw.next ((ju HZ).fol (ju HGA) (by simp) ?_ (Ch.set (ad := ⟨g, i * 3 + 2, none⟩) (Ch.refl (fun k => k = g) w7) (Or.inl rfl) _)) (Bel.refl _).drew
  rw [ju HGA]
  exact hf7.cell i (ju HI) 2 (by decide) _ _ rfl)
 clear HZ HWZ r2 z0 y4 y1
 generalize (w7.setCell ⟨g, i * 3 + 2, none⟩ (.int .u64 mv)).drew = w8 at *
 have hf8 := (ju HL4).fo
 rw [ju HGA] at hf8
 have HI4 : Hid (i < s4.fol.length) := jd (by rw [ju HS4]; simpa using hi)
 have HF4 : Hid (s4.fol[i]'(ju HI4) = (f1, f2, mv)) := jd (by
  have := ju HF123
  have e4 : s4.fol[i]'(ju HI4) = (s.fol[i]'hi |>.1, (s.fol[i]'hi).2.1, mv) := by simp [ju HS4]
  rw [e4, this.1, this.2.1])
 obtain ⟨r0, r1, r2⟩ := E65_cell hf8.row i (ju HI4)
 rw [ju HF4] at r1 r2
 rw [Nat.zero_add] at r1 r2
 dsimp only at r1 r2
 have z0 : w8.frozen? ⟨g, i * 3 + 1, none⟩ = false := World.ownsRow.frozenAt hf8 _
 clear hf8 r0
 go_wp2_with fail
 have HL5 : Hid (Fw W0 (w8.setCell ⟨g, i * 3 + 1, none⟩ (.int .u64 (mv + 1))) b b2 b3 s5 x m y) := jd (by
  have hf8 := (ju HL4).fo
  rw [ju HGA] at hf8
  have h9 := (ju HL4).fol (ju HGA) (F' := s4.fol.set i ff) (by simp) (by
   rw [ju HGA]
   refine hf8.cell i (ju HI4) 1 (by decide) (.int .u64 (mv + 1)) _ ?_
   rw [ju HF4, ju HFF, ← (ju HF123).1]
   rfl) (Ch.set (ad := ⟨g, i * 3 + 1, none⟩) (Ch.refl (fun k => k = g) w8) (Or.inl rfl) _)
  have e5 : ({ s4 with fol := s4.fol.set i ff } : GP) = s5 := by rw [ju HSE, ju HS4]; simp
  rw [e5] at h9
  exact h9)
 clear HL4 r1 r2 z0 HI4 HF4
 generalize w8.setCell ⟨g, i * 3 + 1, none⟩ (.int .u64 (mv + 1)) = w9 at *
 have hLd : Fw W0 w9.drew b b2 b3 s5 x m y := (ju HL5).next (Bel.refl _).drew
 refine wp_region_held_drew (S := fun w => w.heap[b3]? = some (.cells (mg m y) 87)) Tryz.follows hLd.aq.rm (fun hS => ?_)
 generalize w9.drew = wd at *
 refine any_take (i := 2) (v := .agg (mg m y)) rfl (by kernel_rfl) (fun _ _ _ h => h) rfl hS (fun w hw => ldM_run (.tmp 3) (by exact rfl) (by go_simp) hw) ?_
 refine any_do (i := 0) (v := .agg (gc s5 x)) (w' := wd) (by kernel_rfl) rfl rfl (ldP_run (.tmp 2) (by exact rfl) (by go_simp) hLd.aq.row) ⟨hS, ?_⟩
 refine any_call (i := 1) (by kernel_rfl) rfl rfl (by go_simp) ((ju HAd) wd hLd.gt) ?_
 rintro e wa ⟨rfl, hba⟩
 have hLa : Fw W0 wa b b2 b3 s5 x m y := hLd.next hba
 refine ⟨_, rfl, hLa.aq.rm, ?_⟩
 clear hLd hS hba
 refine any_call (i := 3) (by kernel_rfl) rfl rfl (by go_simp) (ackn_g (W := wa) (s := sA) (x := x) (m := m) (y := y) (ju HRE)) ?_
 rintro e wb ⟨rfl, hbb⟩
 have hLb : Fw W0 wb b b2 b3 s5 x m y := hLa.next hbb
 refine ⟨_, rfl, hLb.aq.rm, ?_⟩
 clear hLa hbb
 have hcc := ch_row (c' := gc sA x) hLb.aq.row
 have HL : Hid (Fw W0 (wb.setRow b (gc sA x)) b b2 b3 sA x m y) := jd (by
  have hq1 := hcc.1
  have hq2 := hcc.2
  rw [ju HSC] at hq1 hq2 ⊢
  exact hLb.adv cA5 hq1 hq2)
 refine any_skip (i := 4) (w' := wb.setRow b (gc sA x)) (by kernel_rfl) rfl rfl (st_run (s := sA) (z := x) (.tmp 2) (.tmp 84) (by exact rfl) (by go_simp) (by go_simp) hLb.aq.row) ⟨(ju HL).aq.rm, ?_⟩
 refine wpAnyH_done (by kernel_rfl) ?_ _
 clear hLb hcc HL5 HAd
 generalize wb.setRow b (gc sA x) = wc at *
 have hfc := (ju HL).fo
 rw [ju HGA] at hfc
 obtain ⟨r0, r1, r2⟩ := E65_cell hfc.row i (ju HIF)
 rw [ju HFE, ju HFF] at r1
 rw [Nat.zero_add] at r1
 dsimp only at r1
 clear hfc r0 r2
 simp [Act.put]
 by_cases hla : li < mv + 1
 ·have HRa : Hid (r = (sA, [])) := jd (by rw [ju HR, if_pos hla])
  have hla' : decide (li < mv + 1) = true := decide_eq_true hla
  clear HR HMs hla
  go_wp2_with (first
   | go_skip
   | (refine bx_ldK 31 _ (by exact rfl) b (by exact rfl) (by exact rfl) _ _ (ju HL).aq.row Tryz.underlying31 (zP _ _) ?_)
   | go_guarded
   | (obtain ⟨s2, x2, h2⟩ := (ju HL).aq.row2; refine bx_st rfl 31 (.tmp 4) _ rfl b2 (gc sA x) _ rfl rfl h2 (zP _ _) rfl (gc_one _ _) ?_; intro wx hr9 hc9; have HR9 := jd (aI hr9 (aI ((ju HL).gt.box h2 hc9) (bel_off (ju HL).aq.bel hc9 (ju HL).aq.ge2))); clear hr9 hc9 h2))
  rw [ju HRa]
  exact bodyPost_ret (res2 (p := 4) (q := 5) rfl Tryz.underlying31 (zP _ _) (ju HR9).1 _ _ rfl rfl) rfl ⟨_, none, 0, rfl, (ju HR9).2.1, ju HCP, Ms.nil _ _, (ju HR9).2.2⟩
 ·have HRb : Hid (r = (sA, [mm])) := jd (by rw [ju HR, if_neg hla])
  have hla' : decide (li < mv + 1) = false := decide_eq_false hla
  clear HR
  go_wp2_with fail
  clear r1 hla hla'
  have hSd : Fw W0 wc.drew b b2 b3 sA x m y := (ju HL).next (Bel.refl wc).drew
  refine wp_region_held_drew (S := fun w => Fw W0 w b b2 b3 sA x m y) Tryz.follows hSd (fun hS => ?_)
  clear hSd
  generalize wc.drew = wd at *
  refine any_ldP (i := 0) (b := b) rfl (by kernel_rfl) (fun _ _ _ h => h) rfl hS rfl (by go_simp) (fun w hw => hw.aq.row) ?_
  refine any_ldP (i := 1) (b := b) rfl (by kernel_rfl) (fun _ _ _ h => h) rfl hS rfl (by go_simp) (fun w hw => hw.aq.row) ?_
  refine any_take (i := 2) (v := .pointer (some ⟨g, i * 3, none⟩)) rfl (by kernel_rfl) (fun _ _ _ h => h) rfl hS (fun w hw => by go_simp) ?_
  refine any_take (i := 3) (v := .pointer (some ⟨g, i * 3, none⟩)) rfl (by kernel_rfl) (fun _ _ _ h => h) rfl hS (fun w hw => by go_simp) ?_
  refine any_take (i := 4) (v := .agg (encF ff).toArray) rfl (by kernel_rfl) (fun _ _ _ h => h) rfl hS (fun w hw => fol_ld_run (.tmp 95) (by exact rfl) g i (by go_simp) hw.fo (ju HGA) (ju HIF) (ju HFE)) ?_
  refine any_call (i := 5) (by kernel_rfl) rfl rfl (by go_simp) ((ju HMs) wd hS.gt hS.aq.bel.size) ?_
  rintro e w1 ⟨mx, rfl, ho6, hn6, hb6⟩
  have hS1 := hS.next hb6
  refine ⟨_, rfl, hS1, ?_⟩
  have hB1 := hS1.aq.bel.size
  clear hb6 hS
  obtain ⟨s2, x2, h2⟩ := hS1.aq.row2
  have hA := (Bel.refl w1).alloc (.cells (mg mm mx) 87)
  have hSA := hS1.next hA
  have hO := hS1.out
  have hSB := hS1.st
  refine any_two (i := 6) (j := 7) (vi := .slice (some ⟨w1.heap.size, 0, none⟩) 1 1) (wi := w1.alloc (.cells (mg mm mx) 87)) (wj := w1.setRow b2 (gc sA x)) (by kernel_rfl) (by exact rfl) (by exact rfl) (by exact rfl) (by exact rfl) (one_runM (.tmp 97) (by exact rfl) (by go_simp)) (st_run (s := sA) (z := x) (.tmp 4) (.tmp 92) (by exact rfl) (by go_simp) (by go_simp) h2) ⟨hSA, ?_⟩ ⟨hSB, ?_⟩
  ·have hO2 := hSA.out
   have HQ := jd (aI hO2 (hSA.outM (Ms.one hB1 ho6 hn6)))
   obtain ⟨s3, x3, h3⟩ := hSA.aq.row2
   have hSC := hSA.st
   refine any_skip (i := 7) (w' := (w1.alloc (.cells (mg mm mx) 87)).setRow b2 (gc sA x)) (by kernel_rfl) rfl rfl (st_run (s := sA) (z := x) (.tmp 4) (.tmp 92) (by exact rfl) (by go_simp) (by go_simp) h3) ⟨hSC, ?_⟩
   clear hSA hSB hO2 hO hA h2 h3 ho6 hS1
   generalize (w1.alloc (.cells (mg mm mx) 87)).setRow b2 (gc sA x) = we at *
   refine any_do (i := 8) (v := .slice (some ⟨w1.heap.size, 0, none⟩) 1 1) (w' := we) (by kernel_rfl) rfl rfl (by go_simp) ⟨hSC, ?_⟩
   refine wpAnyH_done (by kernel_rfl) ?_ _
   clear hSC
   simp [Act.put]
   go_wp2_with fail
   rw [ju HRb]
   exact bodyPost_ret (res2 (p := 4) (q := 5) rfl Tryz.underlying31 (zP _ _) (ju HQ).1.1 _ _ rfl rfl) rfl ⟨_, _, _, rfl, (ju HQ).1.2.1, ju HCP, (ju HQ).2, (ju HQ).1.2.2⟩
  ·have ho7 : GwT (w1.setRow b2 (gc sA x)) mm mx := ho6.box h2 (ch_row (c' := gc sA x) h2).2
   clear hSA hA h2 ho6 hS1
   have hB2 := hO.2.2.size
   generalize w1.setRow b2 (gc sA x) = we at *
   have hA2 := (Bel.refl we).alloc (.cells (mg mm mx) 87)
   have HQ := jd (aI (aI (hA2.row hO.1) (aI (hO.2.1.bel hA2) (hO.2.2.trans hA2))) (Ms.one hB2 ho7 hn6))
   have hSC := hSB.next hA2
   refine any_do (i := 6) (v := .slice (some ⟨we.heap.size, 0, none⟩) 1 1) (w' := we.alloc (.cells (mg mm mx) 87)) (by kernel_rfl) rfl rfl (one_runM (.tmp 97) (by exact rfl) (by go_simp)) ⟨hSC, ?_⟩
   clear hSB hO ho7
   generalize we.alloc (.cells (mg mm mx) 87) = wf at *
   refine any_do (i := 8) (v := .slice (some ⟨we.heap.size, 0, none⟩) 1 1) (w' := wf) (by kernel_rfl) rfl rfl (by go_simp) ⟨hSC, ?_⟩
   refine wpAnyH_done (by kernel_rfl) ?_ _
   clear hSC
   simp [Act.put]
   go_wp2_with fail
   rw [ju HRb]
   exact bodyPost_ret (res2 (p := 4) (q := 5) rfl Tryz.underlying31 (zP _ _) (ju HQ).1.1 _ _ rfl rfl) rfl ⟨_, _, _, rfl, (ju HQ).1.2.1, ju HCP, (ju HQ).2, (ju HQ).1.2.2⟩
theorem takeHeard_g (h : Fz W0 W s x) (h0 : 0 ≤ s.base) (h62 : s.base ≤ 4611686018427387904) (hll : s.log.length ≤ 900000) (hcap : Lc W0.heap.size x s.log.length) (hlm : ∀ e ∈ s.log, e.m.length ≤ 17592186044416) (hBl : s.B.length ≤ 17592186044416) (hM : s.M.length ≤ 64) (hfl : s.fol.length ≤ 64) (hfo : ∀ f ∈ s.fol, 1 ≤ f.2.1 ∧ f.2.1 ≤ s.lastI + 1 ∧ f.2.2 < f.2.1 ∧ 0 ≤ f.2.2) (hnd : (s.fol.map (·.1)).Nodup) (hre : s.reads = []) (hix : 0 ≤ m.index ∧ m.index ≤ 4611686018427387904) : Calls Tryz.prog 180 #[.agg (gc s x), .agg (mg m y)] W fun e w' => ∃ x' aA cA, e = .returned (.tuple #[.agg (gc (s.takeHeard m).1 x'), .slice aA (s.takeHeard m).2.length cA]) ∧ Gt w' (s.takeHeard m).1 x' ∧ Lc W0.heap.size x' (s.takeHeard m).1.log.length ∧ Ms W0.heap.size w' (.slice aA (s.takeHeard m).2.length cA) (s.takeHeard m).2 ∧ Bel W0 w' := by
 by_cases ht : m.term = s.term
 ·cases hq : s.fol.find? (fun g => g.1 == m.frm) with
  | none =>
   have e : s.takeHeard m = (s, []) := by unfold GP.takeHeard; rw [if_pos ht, hq]
   rw [e]
   exact heard_no h hcap (fun w1 hb => (followAt_n (h.gt.bel hb).f.1 m.frm (by omega) hq).mono (fun _ _ ⟨v, he, hb', hv⟩ => ⟨v, he, hb', fun _ => hv⟩))
  | some f =>
   obtain ⟨i, hi, rfl⟩ := List.getElem_of_mem (List.mem_of_find?_eq_some hq)
   have hid : s.fol[i].1 = m.frm := by
    have := List.find?_some hq
    simpa using this
   cases ho : m.ok with
   | false => exact heard_bad h h0 h62 hll hcap hlm hBl hfl hfo hnd hix ht ho hi hid hq
   | true => exact heard_ok h h0 h62 hll hcap hlm hBl hM hfl hfo hnd hre ht ho hi hid hq
 ·have e : s.takeHeard m = (s, []) := by unfold GP.takeHeard; rw [if_neg ht]
  rw [e]
  exact heard_no h hcap (fun w1 hb => (followAt_g (h.gt.bel hb).f.1 m.frm (by omega)).mono (fun _ _ ⟨v, he, _, hb'⟩ => ⟨v, he, hb', fun h' => absurd h' ht⟩))
end
end Go.Proofs.YthekbhliokcpcaaGreat
