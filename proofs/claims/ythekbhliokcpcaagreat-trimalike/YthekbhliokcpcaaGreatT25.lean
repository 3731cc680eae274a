/- A leader's entries come to any member. takings, trim.Step of any member. -/
import Derived.Test.YthekbhliokcpcaaGreatT24
import Derived.Test.YthekbhliokcpcaaGreatT20
namespace Go.Proofs.YthekbhliokcpcaaGreat
open Go.RowKit Go.Maps Go.Sort
section
variable {W : World} {s : GP} {x : Px} {m : GM} {y : GX}
set_option maxRecDepth 100000 in
set_option maxHeartbeats 8000000 in
theorem takeLay_g (B0 : Nat) (hBS : B0 ≤ W.heap.size) (h : Gt W s x) (hz : Gz s x) (hm : mayG s = true) (hcap : Lc B0 x s.log.length) (hw : Gw W m y) (ht : m.term ≤ 4611686018427387904) (hec : m.ents.length ≤ y.ec) (hmi : 0 ≤ m.index ∧ m.index ≤ 4611686018427387904) (h16 : m.ents.length ≤ 16) (hl2 : ∀ e ∈ m.ents, e.m.length ≤ 17592186044416) (hne : ¬ m.index < s.base → s.tAt m.index ≠ some m.lterm → 1 ≤ m.index) : Calls Tryz.prog 178 #[.agg (gc s x), .agg (mg m y)] W fun e w' => ∃ x' aA cA, e = .returned (.tuple #[.agg (gc (s.takeLay m).1 x'), .slice aA (s.takeLay m).2.length cA]) ∧ Gt w' (s.takeLay m).1 x' ∧ Lc B0 x' (s.takeLay m).1.log.length ∧ Ms W.heap.size w' (.slice aA (s.takeLay m).2.length cA) (s.takeLay m).2 ∧ Bel W w' := by
 have hb62 : s.base ≤ 4611686018427387904 := numB_base (mayG_num hm).1
 have HTB : Hid (∀ w1, Bel W w1 → Calls Tryz.prog 79 #[.agg (gc s x)] w1 fun e w' => e = .returned (.tuple #[.int .u64 s.lastI, .int .u64 s.lastT]) ∧ Bel w1 w') := jd (fun w1 hb => last_g (h.bel hb).l.sl hz.base.1 hb62 (by have := hz.l; omega))
 have HP := jd (aI h hcap)
 by_cases hlt : m.term < s.term
 ·have hd1 : decide (m.term < s.term) = true := decide_eq_true hlt
  have HE : Hid (s.takeLay m = (s, [s.heard m.frm false s.lastI 0])) := jd (by unfold GP.takeLay; rw [if_pos hlt])
  clear h hz hm hcap hw ht hec hmi h16 hl2 hne hb62
  generalize s.lastI = li at *
  rw [ju HE]
  clear HE
  go_enter Tryz.func178, Tryz.ntmps178
  go_wp2_with (first
   | go_skip
   | (refine bx_boxK 31 (.tmp 0) (by exact rfl) (by exact rfl) (gc s x) (by exact rfl) ?_; intro b w0 hr0 hs0 hb0; have HR0 := jd hr0; have HB0 := jd (aI hb0 hs0); clear hr0 hs0 hb0)
   | (refine bx_boxK 87 (.tmp 1) (by exact rfl) (by exact rfl) (mg m y) (by exact rfl) ?_; intro b3 w1 hr1 hs1 hb1; have HM0 := jd (aI hr1 hs1); have HB1 := jd hb1; clear hr1 hs1 hb1)
   | (refine bx_new rfl 31 rfl _ Tryz.zeroP ?_; intro b2 w2 hr2 hs2 hb2; have HA := jd (Aq.mk0 (ju HB0).1 (ju HB0).2 (ju HR0) (ju HB1) (ju HM0).2 (ju HM0).1 hb2 hs2 hr2); have y2 := (Bg.of (ju HA).row).c2; have y4 := (Bg.of (ju HA).row).c4; have m1 := (Mb2.of (ju HA).rm).c1; have m3 := (Mb2.of (ju HA).rm).c3; clear hr2 hs2 hb2 HR0 HB0 HM0 HB1)
   | (refine bx_ldK 31 _ (by exact rfl) b (by exact rfl) (by exact rfl) _ _ (ju HA).row u31 (zP _ _) ?_)
   | (go_at_call 79; refine ((ju HTB) _ (ju HA).bel).mono ?_; rintro e w4 ⟨rfl, hb4⟩; replace HA := jd ((ju HA).next hb4); clear y2 y4 m1 m3; clear hb4)
   | go_guarded)
  have hA := (ju HA).next (Bel.refl w4).drew
  refine wp_region_held_drew (S := fun w => w.heap[b]? = some (.cells (gc s x) 31) ∧ w.heap[b3]? = some (.cells (mg m y) 87)) Tryz.follows ⟨hA.row, hA.rm⟩ (fun hS => ?_)
  clear HA
  generalize w4.drew = wd at *
  refine any_ldP (i := 0) (b := b) rfl (by kernel_rfl) (fun _ _ _ h => h) rfl hS rfl (by go_simp) (fun w hw => hw.1) ?_
  refine any_ldP (i := 1) (b := b) rfl (by kernel_rfl) (fun _ _ _ h => h) rfl hS rfl (by go_simp) (fun w hw => hw.1) ?_
  refine any_take (i := 2) (v := .pointer (some ⟨b3, 1, none⟩)) rfl (by kernel_rfl) (fun _ _ _ h => h) rfl hS (fun w hw => by go_simp) ?_
  refine any_take (i := 3) (v := .int .i64 m.frm) rfl (by kernel_rfl) (fun _ _ _ h => h) rfl hS (fun w hw => by have := (Mb2.of hw.2).c1; go_simp) ?_
  refine any_take (i := 4) (v := .int .u64 li) rfl (by kernel_rfl) (fun _ _ _ h => h) rfl hS (fun w hw => by go_simp) ?_
  refine any_call (i := 5) (by kernel_rfl) rfl rfl (by go_simp) (lheard_g (W := wd) (s := s) (x := x) m.frm false li 0) ?_
  rintro e w9 ⟨aH, rfl, hoH, hb9⟩
  have hS5 := aI (hb9.row hS.1) (hb9.row hS.2)
  refine ⟨_, rfl, hS5, ?_⟩
  have hA5 := hA.next hb9
  obtain ⟨s9, x9, h2⟩ := hA5.row2
  have hch := ch_row (c' := gc s x) h2
  have HQ := jd (aI hch.1 (aI ((((ju HP).1.bel hA5.bel)).box h2 hch.2) (aI (ju HP).2 (aI (bel_off hA5.bel hch.2 hA5.ge2) ((hoH.mono hA.bel.size).box h2 (by decide) hch.2)))))
  have hS6 := aI (hch.2.row hS5.1 hA5.ne.symm) (hch.2.row hS5.2 hA5.ne4)
  refine any_skip (i := 6) (w' := w9.setRow b2 (gc s x)) (by kernel_rfl) rfl rfl (st_run (s := s) (z := x) (.tmp 4) (.tmp 18) (by exact rfl) (by go_simp) (by go_simp) h2) ⟨hS6, ?_⟩
  generalize w9.setRow b2 (gc s x) = wE at *
  refine any_do (i := 7) (v := .slice aH 1 1) (w' := wE) (by kernel_rfl) rfl rfl (by go_simp) ⟨hS6, ?_⟩
  refine wpAnyH_done (by kernel_rfl) ?_ _
  clear hch hS6 h2 hA5 hS5 hoH hb9 hS hA
  simp [Act.put]
  go_wp2_with fail
  have q := ju HQ
  exact bodyPost_ret (res2 (p := 4) (q := 5) rfl u31 (zP _ _) q.1 _ _ rfl rfl) rfl ⟨_, aH, 1, rfl, q.2.1, q.2.2.1, Ms.plain q.2.2.2.2 (fun z hz => by rw [List.mem_singleton.1 hz]; exact ⟨rfl, rfl, rfl⟩), q.2.2.2.1⟩
 ·by_cases hr : s.role = 2
  ·have hd1 : decide (m.term < s.term) = false := decide_eq_false hlt
   have hd2 : (s.role == 2) = true := beq_iff_eq.2 hr
   have HE : Hid (s.takeLay m = (s, [])) := jd (by unfold GP.takeLay; rw [if_neg hlt, if_pos hr])
   clear h hz hm hcap hw ht hec hmi h16 hl2 hne hb62 hr
   rw [ju HE]
   clear HE
   go_enter Tryz.func178, Tryz.ntmps178
   go_wp2_with (first
    | go_skip
    | (refine bx_boxK 31 (.tmp 0) (by exact rfl) (by exact rfl) (gc s x) (by exact rfl) ?_; intro b w0 hr0 hs0 hb0; have HR0 := jd hr0; have HB0 := jd (aI hb0 hs0); clear hr0 hs0 hb0)
    | (refine bx_boxK 87 (.tmp 1) (by exact rfl) (by exact rfl) (mg m y) (by exact rfl) ?_; intro b3 w1 hr1 hs1 hb1; have HM0 := jd (aI hr1 hs1); have HB1 := jd hb1; clear hr1 hs1 hb1)
    | (refine bx_new rfl 31 rfl _ Tryz.zeroP ?_; intro b2 w2 hr2 hs2 hb2; have HA := jd (Aq.mk0 (ju HB0).1 (ju HB0).2 (ju HR0) (ju HB1) (ju HM0).2 (ju HM0).1 hb2 hs2 hr2); have y2 := (Bg.of (ju HA).row).c2; have y4 := (Bg.of (ju HA).row).c4; have m1 := (Mb2.of (ju HA).rm).c1; have m3 := (Mb2.of (ju HA).rm).c3; clear hr2 hs2 hb2 HR0 HB0 HM0 HB1)
    | (refine bx_ldK 31 _ (by exact rfl) b (by exact rfl) (by exact rfl) _ _ (ju HA).row u31 (zP _ _) ?_)
    | go_guarded
    | (obtain ⟨s9, x9, h2⟩ := (ju HA).row2; refine bx_st rfl 31 (.tmp 4) _ rfl b2 (gc s x) _ rfl rfl h2 (zP _ _) rfl (gc_one _ _) ?_; intro w9 hr9 hc9; have HR9 := jd (aI hr9 (aI (((ju HP).1.bel (ju HA).bel).box h2 hc9) (aI (ju HP).2 (bel_off (ju HA).bel hc9 (ju HA).ge2)))); clear hr9 hc9 h2))
   have q := ju HR9
   exact bodyPost_ret (res2 (p := 4) (q := 5) rfl u31 (zP _ _) q.1 _ _ rfl rfl) rfl ⟨_, none, 0, rfl, q.2.1, q.2.2.1, Ms.nil _ _, q.2.2.2⟩
  ·have hd1 : decide (m.term < s.term) = false := decide_eq_false hlt
   have hd2 : (s.role == 2) = false := beq_eq_false_iff_ne.2 hr
   obtain ⟨u0, hu0⟩ : ∃ u0, u0 = s.down m.term := ⟨_, rfl⟩
   obtain ⟨uh, huh⟩ : ∃ uh, uh = ({ u0 with lead := m.frm, idle := 0 } : GP) := ⟨_, rfl⟩
   have huh2 : uh = s.hears m := by rw [huh, hu0]; rfl
   have HD : Hid (∀ W', Bel W W' → Calls Tryz.prog 93 #[.agg (gc s x), .int .u64 m.term] W' fun e w' => ∃ x', e = .returned (.tuple #[.agg (gc u0 x'), .int .i64 0]) ∧ Gt w' u0 x' ∧ Lc B0 x' u0.log.length ∧ Bel W' w') := jd (fun W' hb => by rw [hu0]; exact (down_g (h.bel hb).gp hz hm m.term ht).mono (fun _ _ ⟨x', he, hp, hb'⟩ => ⟨x', he, hp.gt, hp.lc.mono (Nat.le_trans hBS hb.size), hb'⟩))
   have HE : Hid (s.takeLay m = uh.layTo m) := jd (by unfold GP.takeLay; rw [if_neg hlt, if_neg hr, huh2])
   have HLY : Hid (∀ w1 x1, Bel W w1 → Gt w1 uh x1 → Lc B0 x1 uh.log.length → Calls Tryz.prog 218 #[.agg (gc uh x1), .agg (mg m y)] w1 fun e w' => ∃ x' aA cA, e = .returned (.tuple #[.agg (gc (uh.layTo m).1 x'), .slice aA (uh.layTo m).2.length cA]) ∧ Gt w' (uh.layTo m).1 x' ∧ Lc B0 x' (uh.layTo m).1.log.length ∧ Ms w1.heap.size w' (.slice aA (uh.layTo m).2.length cA) (uh.layTo m).2 ∧ Bel w1 w') := jd (fun w1 x1 hb hg hc => layTo_g B0 (Nat.le_trans hBS hb.size) hg (by rw [huh2]; exact hz.base.1) (by rw [huh2]; exact hb62) (by rw [huh2]; have := hz.l; show s.log.length ≤ 900000; omega) hc (by rw [huh2]; exact hz.lm) (by rw [huh2]; exact hz.b) (by rw [huh2]; exact hz.commit) (hw.bel hb) hec hmi h16 hl2 (by rw [huh2]; exact hne))
   have HUH : Hid (uh = ({ u0 with lead := m.frm, idle := 0 } : GP) ∧ uh.log = u0.log) := jd ⟨huh, by rw [huh]⟩
   clear h hz hm hcap hw ht hec hmi h16 hl2 hne hb62 hu0 huh huh2 hr
   generalize uh.layTo m = r at *
   rw [ju HE]
   clear HE
   go_enter Tryz.func178, Tryz.ntmps178
   go_wp2_with (first
    | go_skip
    | (refine bx_boxK 31 (.tmp 0) (by exact rfl) (by exact rfl) (gc s x) (by exact rfl) ?_; intro b w0 hr0 hs0 hb0; have HR0 := jd hr0; have HB0 := jd (aI hb0 hs0); clear hr0 hs0 hb0)
    | (refine bx_boxK 87 (.tmp 1) (by exact rfl) (by exact rfl) (mg m y) (by exact rfl) ?_; intro b3 w1 hr1 hs1 hb1; have HM0 := jd (aI hr1 hs1); have HB1 := jd hb1; clear hr1 hs1 hb1)
    | (refine bx_new rfl 31 rfl _ Tryz.zeroP ?_; intro b2 w2 hr2 hs2 hb2; have HA := jd (Aq.mk0 (ju HB0).1 (ju HB0).2 (ju HR0) (ju HB1) (ju HM0).2 (ju HM0).1 hb2 hs2 hr2); have y2 := (Bg.of (ju HA).row).c2; have y4 := (Bg.of (ju HA).row).c4; have m1 := (Mb2.of (ju HA).rm).c1; have m3 := (Mb2.of (ju HA).rm).c3; clear hr2 hs2 hb2 HR0 HB0 HM0 HB1)
    | (refine bx_ldK 31 _ (by exact rfl) b (by exact rfl) (by exact rfl) _ _ (ju HA).row u31 (zP _ _) ?_)
    | (refine bx_ldK 87 _ (by exact rfl) b3 (by exact rfl) (by exact rfl) _ _ (ju HA).rm Tryz.underlying87 (szM _ _) ?_)
    | (go_at_call 93; refine ((ju HD) _ (ju HA).bel).mono ?_; rintro e w5 ⟨x5, rfl, hg5, hc5, hb5⟩; have HG5 := jd (aI hg5 hc5); replace HA := jd ((ju HA).next hb5); clear y2 y4 m1 m3; have y2 := (Bg.of (ju HA).row).c2; have y4 := (Bg.of (ju HA).row).c4; have m1 := (Mb2.of (ju HA).rm).c1; have m3 := (Mb2.of (ju HA).rm).c3; clear hg5 hc5 hb5)
    | (refine bx_st rfl 31 (.tmp 2) _ rfl b (gc u0 x5) _ rfl rfl (ju HA).row (zP _ _) rfl (gc_one _ _) ?_; intro w6 hr6 hc6; replace HG5 := jd (aI ((ju HG5).1.box (ju HA).row hc6) (ju HG5).2); replace HA := jd ((ju HA).set hr6 hc6); clear y2 y4 m1 m3; have y2 := (Bg.of (ju HA).row).c2; have y4 := (Bg.of (ju HA).row).c4; have m1 := (Mb2.of (ju HA).rm).c1; have m3 := (Mb2.of (ju HA).rm).c3; clear hr6 hc6)
    | (refine gl_lead rfl _ _ rfl b _ rfl rfl (ju HA).row ?_; intro w7 hr7 hc7; replace HG5 := jd (aI ((ju HG5).1.box (ju HA).row hc7) (ju HG5).2); replace HA := jd ((ju HA).set hr7 hc7); clear y2 y4 m1 m3; have y2 := (Bg.of (ju HA).row).c2; have y4 := (Bg.of (ju HA).row).c4; have m1 := (Mb2.of (ju HA).rm).c1; have m3 := (Mb2.of (ju HA).rm).c3; clear hr7 hc7)
    | (refine gl_idle rfl _ _ rfl b _ rfl rfl (ju HA).row ?_; intro w8 hr8 hc8; have hg8 := gt_li ((ju HG5).1.box (ju HA).row hc8) m.frm 0; rw [← (ju HUH).1] at hg8; rw [show (gc { u0 with lead := m.frm, idle := 0 } x5) = gc uh x5 by rw [(ju HUH).1]] at hr8; replace HG5 := jd (aI hg8 (show Lc B0 x5 uh.log.length by rw [(ju HUH).2]; exact (ju HG5).2)); replace HA := jd ((ju HA).set hr8 hc8); clear y2 y4 m1 m3; clear hr8 hc8 hg8)
    | (go_at_call 218; refine ((ju HLY) _ _ (ju HA).bel (ju HG5).1 (ju HG5).2).mono ?_; rintro e wa ⟨xa, aA, cA, rfl, hga, hca, hma, hba⟩; have HGA := jd (aI hga (aI hca (hma.mono (ju HA).bel.size))); replace HA := jd ((ju HA).next hba); clear hga hca hma hba)
    | go_guarded
    | (obtain ⟨s9, x9, h2⟩ := (ju HA).row2; refine bx_st rfl 31 (.tmp 4) _ rfl b2 (gc r.1 xa) _ rfl rfl h2 (zP _ _) rfl (gc_one _ _) ?_; intro w9 hr9 hc9; have HR9 := jd (aI hr9 (aI ((ju HGA).1.box h2 hc9) (aI (ju HGA).2.1 (aI ((ju HGA).2.2.box h2 hc9) (bel_off (ju HA).bel hc9 (ju HA).ge2))))); clear hr9 hc9 h2))
   have q := ju HR9
   exact bodyPost_ret (res2 (p := 4) (q := 5) rfl u31 (zP _ _) q.1 _ _ rfl rfl) rfl ⟨_, aA, cA, rfl, q.2.1, q.2.2.1, q.2.2.2.1, q.2.2.2.2⟩
end
theorem ldM_run {a : Act} {o : Oper} {w : World} {m : GM} {y : GX} {b : Nat} (z : Operand) (ho : o.op = .load 87 z) (hx : a.eval z = .pointer (some ⟨b, 0, none⟩)) (hg : w.heap[b]? = some (.cells (mg m y) 87)) : (execOp a.eval o).run Tryz.prog w = .ok (.value (.agg (mg m y))) w := by
 unfold execOp
 simp only [ho, hx, Instr.loadAt, Instr.sureAddr, Sem.run_bind, Sem.run_pure, Result.andThen_ok, run_loadVar_row w b 87 87 _ (0, 0) _ hg Tryz.underlying87 rfl (szM m y)]
def tks : Array Value := #[.nilFunc, .func (.func 135) #[] #[], .func (.func 135) #[] #[], .func (.func 136) #[] #[], .func (.func 136) #[] #[], .func (.func 137) #[] #[]]
theorem tks_one : tks.all (·.oneCell') = true := by simp [tks, Value.oneCell']
theorem Tryz.zeroTks (w : World) : (zeroValue 139).run Tryz.prog w = .ok (.agg #[.nilFunc, .nilFunc, .nilFunc, .nilFunc, .nilFunc, .nilFunc]) w := by go_simp
theorem Tryz.sizeTks : (Tryz.prog.info? 139).map (·.size) = some tks.size := by kernel_rfl
theorem Tryz.underlyingTks : Tryz.prog.underlying 139 = some (.array 6 138) := by kernel_rfl
set_option maxRecDepth 100000 in
theorem takings_any {W : World} : Calls Tryz.prog 78 #[] W fun e w' => e = .returned (.agg tks) ∧ Bel W w' := by
 go_enter Tryz.func78, Tryz.ntmps78
 go_wp2_with (first
  | (refine bx_new rfl 139 rfl _ Tryz.zeroTks ?_; intro b2 w1 hr1 hs1 hb1; have HR1 := jd (aI hr1 (aI hb1 hs1)); clear hr1 hs1 hb1)
  | (refine bx_st rfl 139 _ _ rfl b2 tks _ rfl rfl (ju HR1).1 Tryz.sizeTks rfl tks_one ?_; intro w9 hr9 hc9; have HR9 := jd (aI hr9 hc9); clear hr9 hc9))
 refine bodyPost_ret (res1a (p := 0) rfl Tryz.underlyingTks Tryz.sizeTks (ju HR9).1 _ rfl) rfl ⟨rfl, bel_off (ju HR1).2.1 (ju HR9).2 (by have := (ju HR1).2.2; omega)⟩
theorem ixt_1 (w : World) : (Instr.index 139 (.agg tks) (.int .u8 1)).run Tryz.prog w = .ok (.func (.func 135) #[] #[]) w := by kernel_rfl
theorem ixt_2 (w : World) : (Instr.index 139 (.agg tks) (.int .u8 2)).run Tryz.prog w = .ok (.func (.func 135) #[] #[]) w := by kernel_rfl
theorem ixt_3 (w : World) : (Instr.index 139 (.agg tks) (.int .u8 3)).run Tryz.prog w = .ok (.func (.func 136) #[] #[]) w := by kernel_rfl
theorem ixt_4 (w : World) : (Instr.index 139 (.agg tks) (.int .u8 4)).run Tryz.prog w = .ok (.func (.func 136) #[] #[]) w := by kernel_rfl
theorem ixt_5 (w : World) : (Instr.index 139 (.agg tks) (.int .u8 5)).run Tryz.prog w = .ok (.func (.func 137) #[] #[]) w := by kernel_rfl
set_option maxRecDepth 100000 in
set_option maxHeartbeats 8000000 in
theorem step_g {W : World} {s r : GP} {x : Px} {m : GM} {y : GX} {l : List GM} {nA f : Nat} (hk : (m.kind = 1 ∧ f = 135) ∨ (m.kind = 2 ∧ f = 135) ∨ (m.kind = 3 ∧ f = 136) ∨ (m.kind = 4 ∧ f = 136) ∨ (m.kind = 5 ∧ f = 137)) (hf : ∀ W', Bel W W' → Calls Tryz.prog f #[.agg (gc s x), .agg (mg m y)] W' fun e w' => ∃ x' aA cA, e = .returned (.tuple #[.agg (gc r x'), .slice aA nA cA, .int .i64 0]) ∧ Gt w' r x' ∧ Lc W.heap.size x' r.log.length ∧ Ms W.heap.size w' (.slice aA nA cA) l ∧ Bel W' w') : Calls Tryz.prog 30 #[.agg (gc s x), .agg (mg m y)] W fun e w' => ∃ x' aA cA, e = .returned (.tuple #[.agg (gc r x'), .slice aA nA cA, .int .i64 0]) ∧ Gt w' r x' ∧ Lc W.heap.size x' r.log.length ∧ Ms W.heap.size w' (.slice aA nA cA) l ∧ Bel W w' := by
 have HF := jd hf
 clear hf
 rcases hk with ⟨hk, rfl⟩ | ⟨hk, rfl⟩ | ⟨hk, rfl⟩ | ⟨hk, rfl⟩ | ⟨hk, rfl⟩
 ·have HK := jd hk
  clear hk
  go_enter Tryz.func30, Tryz.ntmps30
  go_wp2_with (first
   | go_skip
   | (refine bx_boxK 31 (.tmp 0) (by exact rfl) (by exact rfl) (gc s x) (by exact rfl) ?_; intro b w0 hr0 hs0 hb0; have HR0 := jd hr0; have HB0 := jd (aI hb0 hs0); clear hr0 hs0 hb0)
   | (refine bx_boxK 87 (.tmp 1) (by exact rfl) (by exact rfl) (mg m y) (by exact rfl) ?_; intro b3 w1 hr1 hs1 hb1; have HM0 := jd (aI hr1 hs1); have HB1 := jd hb1; clear hr1 hs1 hb1)
   | (refine bx_new rfl 31 rfl _ Tryz.zeroP ?_; intro b2 w2 hr2 hs2 hb2; have HA := jd (Aq.mk0 (ju HB0).1 (ju HB0).2 (ju HR0) (ju HB1) (ju HM0).2 (ju HM0).1 hb2 hs2 hr2); have m0 := (Mb2.of (ju HA).rm).c0; rw [ju HK] at m0; clear hr2 hs2 hb2 HR0 HB0 HM0 HB1)
   | go_guarded)
  clear m0
  have hA := (ju HA).next (Bel.refl w2).drew
  refine wp_region_held_drew (S := fun w => w.heap[b]? = some (.cells (gc s x) 31) ∧ w.heap[b3]? = some (.cells (mg m y) 87)) Tryz.follows ⟨hA.row, hA.rm⟩ (fun hS => ?_)
  clear HA
  generalize w2.drew = wd at *
  refine any_take (i := 1) (v := .pointer (some ⟨b3, 0, none⟩)) rfl (by kernel_rfl) (fun _ _ _ h => h) rfl hS (fun w hw => by go_simp) ?_
  refine any_take (i := 2) (v := .int .u8 1) rfl (by kernel_rfl) (fun _ _ _ h => h) rfl hS (fun w hw => by have := (Mb2.of hw.2).c0; rw [ju HK] at this; go_simp) ?_
  refine any_ldP (i := 4) (b := b) rfl (by kernel_rfl) (fun _ _ _ h => h) rfl hS rfl (by go_simp) (fun w hw => hw.1) ?_
  refine any_take (i := 5) (v := .agg (mg m y)) rfl (by kernel_rfl) (fun _ _ _ h => h) rfl hS (fun w hw => ldM_run (.tmp 3) (by exact rfl) (by go_simp) hw.2) ?_
  refine any_call (i := 0) (by kernel_rfl) rfl rfl (by go_simp) takings_any ?_
  rintro e w5 ⟨rfl, hb5⟩
  have hS5 := aI (hb5.row hS.1) (hb5.row hS.2)
  refine ⟨_, rfl, hS5, ?_⟩
  refine any_do (i := 3) (v := .func (.func 135) #[] #[]) (by kernel_rfl) rfl rfl (by have := ixt_1 w5; go_simp) ⟨hS5, ?_⟩
  refine any_call (i := 6) (by kernel_rfl) rfl rfl (by go_simp) ((ju HF) w5 (hA.bel.trans hb5)) ?_
  rintro e w6 ⟨x6, aA, cA, rfl, hg6, hc6, hm6, hb6⟩
  have hS6 := aI (hb6.row hS5.1) (hb6.row hS5.2)
  refine ⟨_, rfl, hS6, ?_⟩
  have hA6 := (hA.next hb5).next hb6
  refine any_take (i := 7) (v := .agg (gc r x6)) rfl (by kernel_rfl) (fun _ _ _ h => h) rfl hS6 (fun w hw => by go_simp) ?_
  refine any_take (i := 8) (v := .slice aA nA cA) rfl (by kernel_rfl) (fun _ _ _ h => h) rfl hS6 (fun w hw => by go_simp) ?_
  refine any_take (i := 9) (v := .int .i64 0) rfl (by kernel_rfl) (fun _ _ _ h => h) rfl hS6 (fun w hw => by go_simp) ?_
  obtain ⟨s9, x9, h2⟩ := hA6.row2
  have hch := ch_row (c' := gc r x6) h2
  have HQ := jd (aI hch.1 (aI (hg6.box h2 hch.2) (aI hc6 (aI (bel_off hA6.bel hch.2 hA6.ge2) (hm6.box h2 hch.2)))))
  have hS7 := aI (hch.2.row hS6.1 hA6.ne.symm) (hch.2.row hS6.2 hA6.ne4)
  refine any_skip (i := 10) (w' := w6.setRow b2 (gc r x6)) (by kernel_rfl) rfl rfl (st_run (s := r) (z := x6) (.tmp 4) (.tmp 23) (by exact rfl) (by go_simp) (by go_simp) h2) ⟨hS7, ?_⟩
  generalize w6.setRow b2 (gc r x6) = w7 at *
  refine any_do (i := 11) (v := .slice aA nA cA) (w' := w7) (by kernel_rfl) rfl rfl (by go_simp) ⟨hS7, ?_⟩
  refine any_do (i := 12) (v := .int .i64 0) (w' := w7) (by kernel_rfl) rfl rfl (by go_simp) ⟨hS7, ?_⟩
  refine wpAnyH_done (by kernel_rfl) ?_ _
  clear hch hS7 h2 hA6 hS6 hS5 hg6 hc6 hm6 hb6 hb5 hS hA
  simp [Act.put]
  go_wp2_with fail
  have q := ju HQ
  exact bodyPost_ret (res3 (p := 4) (q := 5) (r := 6) rfl u31 (zP _ _) q.1 _ _ _ rfl rfl rfl) rfl ⟨_, _, _, rfl, q.2.1, q.2.2.1, q.2.2.2.2, q.2.2.2.1⟩
 ·have HK := jd hk
  clear hk
  go_enter Tryz.func30, Tryz.ntmps30
  go_wp2_with (first
   | go_skip
   | (refine bx_boxK 31 (.tmp 0) (by exact rfl) (by exact rfl) (gc s x) (by exact rfl) ?_; intro b w0 hr0 hs0 hb0; have HR0 := jd hr0; have HB0 := jd (aI hb0 hs0); clear hr0 hs0 hb0)
   | (refine bx_boxK 87 (.tmp 1) (by exact rfl) (by exact rfl) (mg m y) (by exact rfl) ?_; intro b3 w1 hr1 hs1 hb1; have HM0 := jd (aI hr1 hs1); have HB1 := jd hb1; clear hr1 hs1 hb1)
   | (refine bx_new rfl 31 rfl _ Tryz.zeroP ?_; intro b2 w2 hr2 hs2 hb2; have HA := jd (Aq.mk0 (ju HB0).1 (ju HB0).2 (ju HR0) (ju HB1) (ju HM0).2 (ju HM0).1 hb2 hs2 hr2); have m0 := (Mb2.of (ju HA).rm).c0; rw [ju HK] at m0; clear hr2 hs2 hb2 HR0 HB0 HM0 HB1)
   | go_guarded)
  clear m0
  have hA := (ju HA).next (Bel.refl w2).drew
  refine wp_region_held_drew (S := fun w => w.heap[b]? = some (.cells (gc s x) 31) ∧ w.heap[b3]? = some (.cells (mg m y) 87)) Tryz.follows ⟨hA.row, hA.rm⟩ (fun hS => ?_)
  clear HA
  generalize w2.drew = wd at *
  refine any_take (i := 1) (v := .pointer (some ⟨b3, 0, none⟩)) rfl (by kernel_rfl) (fun _ _ _ h => h) rfl hS (fun w hw => by go_simp) ?_
  refine any_take (i := 2) (v := .int .u8 2) rfl (by kernel_rfl) (fun _ _ _ h => h) rfl hS (fun w hw => by have := (Mb2.of hw.2).c0; rw [ju HK] at this; go_simp) ?_
  refine any_ldP (i := 4) (b := b) rfl (by kernel_rfl) (fun _ _ _ h => h) rfl hS rfl (by go_simp) (fun w hw => hw.1) ?_
  refine any_take (i := 5) (v := .agg (mg m y)) rfl (by kernel_rfl) (fun _ _ _ h => h) rfl hS (fun w hw => ldM_run (.tmp 3) (by exact rfl) (by go_simp) hw.2) ?_
  refine any_call (i := 0) (by kernel_rfl) rfl rfl (by go_simp) takings_any ?_
  rintro e w5 ⟨rfl, hb5⟩
  have hS5 := aI (hb5.row hS.1) (hb5.row hS.2)
  refine ⟨_, rfl, hS5, ?_⟩
  refine any_do (i := 3) (v := .func (.func 135) #[] #[]) (by kernel_rfl) rfl rfl (by have := ixt_2 w5; go_simp) ⟨hS5, ?_⟩
  refine any_call (i := 6) (by kernel_rfl) rfl rfl (by go_simp) ((ju HF) w5 (hA.bel.trans hb5)) ?_
  rintro e w6 ⟨x6, aA, cA, rfl, hg6, hc6, hm6, hb6⟩
  have hS6 := aI (hb6.row hS5.1) (hb6.row hS5.2)
  refine ⟨_, rfl, hS6, ?_⟩
  have hA6 := (hA.next hb5).next hb6
  refine any_take (i := 7) (v := .agg (gc r x6)) rfl (by kernel_rfl) (fun _ _ _ h => h) rfl hS6 (fun w hw => by go_simp) ?_
  refine any_take (i := 8) (v := .slice aA nA cA) rfl (by kernel_rfl) (fun _ _ _ h => h) rfl hS6 (fun w hw => by go_simp) ?_
  refine any_take (i := 9) (v := .int .i64 0) rfl (by kernel_rfl) (fun _ _ _ h => h) rfl hS6 (fun w hw => by go_simp) ?_
  obtain ⟨s9, x9, h2⟩ := hA6.row2
  have hch := ch_row (c' := gc r x6) h2
  have HQ := jd (aI hch.1 (aI (hg6.box h2 hch.2) (aI hc6 (aI (bel_off hA6.bel hch.2 hA6.ge2) (hm6.box h2 hch.2)))))
  have hS7 := aI (hch.2.row hS6.1 hA6.ne.symm) (hch.2.row hS6.2 hA6.ne4)
  refine any_skip (i := 10) (w' := w6.setRow b2 (gc r x6)) (by kernel_rfl) rfl rfl (st_run (s := r) (z := x6) (.tmp 4) (.tmp 23) (by exact rfl) (by go_simp) (by go_simp) h2) ⟨hS7, ?_⟩
  generalize w6.setRow b2 (gc r x6) = w7 at *
  refine any_do (i := 11) (v := .slice aA nA cA) (w' := w7) (by kernel_rfl) rfl rfl (by go_simp) ⟨hS7, ?_⟩
  refine any_do (i := 12) (v := .int .i64 0) (w' := w7) (by kernel_rfl) rfl rfl (by go_simp) ⟨hS7, ?_⟩
  refine wpAnyH_done (by kernel_rfl) ?_ _
  clear hch hS7 h2 hA6 hS6 hS5 hg6 hc6 hm6 hb6 hb5 hS hA
  simp [Act.put]
  go_wp2_with fail
  have q := ju HQ
  exact bodyPost_ret (res3 (p := 4) (q := 5) (r := 6) rfl u31 (zP _ _) q.1 _ _ _ rfl rfl rfl) rfl ⟨_, _, _, rfl, q.2.1, q.2.2.1, q.2.2.2.2, q.2.2.2.1⟩
 ·have HK := jd hk
  clear hk
  go_enter Tryz.func30, Tryz.ntmps30
  go_wp2_with (first
   | go_skip
   | (refine bx_boxK 31 (.tmp 0) (by exact rfl) (by exact rfl) (gc s x) (by exact rfl) ?_; intro b w0 hr0 hs0 hb0; have HR0 := jd hr0; have HB0 := jd (aI hb0 hs0); clear hr0 hs0 hb0)
   | (refine bx_boxK 87 (.tmp 1) (by exact rfl) (by exact rfl) (mg m y) (by exact rfl) ?_; intro b3 w1 hr1 hs1 hb1; have HM0 := jd (aI hr1 hs1); have HB1 := jd hb1; clear hr1 hs1 hb1)
   | (refine bx_new rfl 31 rfl _ Tryz.zeroP ?_; intro b2 w2 hr2 hs2 hb2; have HA := jd (Aq.mk0 (ju HB0).1 (ju HB0).2 (ju HR0) (ju HB1) (ju HM0).2 (ju HM0).1 hb2 hs2 hr2); have m0 := (Mb2.of (ju HA).rm).c0; rw [ju HK] at m0; clear hr2 hs2 hb2 HR0 HB0 HM0 HB1)
   | go_guarded)
  clear m0
  have hA := (ju HA).next (Bel.refl w2).drew
  refine wp_region_held_drew (S := fun w => w.heap[b]? = some (.cells (gc s x) 31) ∧ w.heap[b3]? = some (.cells (mg m y) 87)) Tryz.follows ⟨hA.row, hA.rm⟩ (fun hS => ?_)
  clear HA
  generalize w2.drew = wd at *
  refine any_take (i := 1) (v := .pointer (some ⟨b3, 0, none⟩)) rfl (by kernel_rfl) (fun _ _ _ h => h) rfl hS (fun w hw => by go_simp) ?_
  refine any_take (i := 2) (v := .int .u8 3) rfl (by kernel_rfl) (fun _ _ _ h => h) rfl hS (fun w hw => by have := (Mb2.of hw.2).c0; rw [ju HK] at this; go_simp) ?_
  refine any_ldP (i := 4) (b := b) rfl (by kernel_rfl) (fun _ _ _ h => h) rfl hS rfl (by go_simp) (fun w hw => hw.1) ?_
  refine any_take (i := 5) (v := .agg (mg m y)) rfl (by kernel_rfl) (fun _ _ _ h => h) rfl hS (fun w hw => ldM_run (.tmp 3) (by exact rfl) (by go_simp) hw.2) ?_
  refine any_call (i := 0) (by kernel_rfl) rfl rfl (by go_simp) takings_any ?_
  rintro e w5 ⟨rfl, hb5⟩
  have hS5 := aI (hb5.row hS.1) (hb5.row hS.2)
  refine ⟨_, rfl, hS5, ?_⟩
  refine any_do (i := 3) (v := .func (.func 136) #[] #[]) (by kernel_rfl) rfl rfl (by have := ixt_3 w5; go_simp) ⟨hS5, ?_⟩
  refine any_call (i := 6) (by kernel_rfl) rfl rfl (by go_simp) ((ju HF) w5 (hA.bel.trans hb5)) ?_
  rintro e w6 ⟨x6, aA, cA, rfl, hg6, hc6, hm6, hb6⟩
  have hS6 := aI (hb6.row hS5.1) (hb6.row hS5.2)
  refine ⟨_, rfl, hS6, ?_⟩
  have hA6 := (hA.next hb5).next hb6
  refine any_take (i := 7) (v := .agg (gc r x6)) rfl (by kernel_rfl) (fun _ _ _ h => h) rfl hS6 (fun w hw => by go_simp) ?_
  refine any_take (i := 8) (v := .slice aA nA cA) rfl (by kernel_rfl) (fun _ _ _ h => h) rfl hS6 (fun w hw => by go_simp) ?_
  refine any_take (i := 9) (v := .int .i64 0) rfl (by kernel_rfl) (fun _ _ _ h => h) rfl hS6 (fun w hw => by go_simp) ?_
  obtain ⟨s9, x9, h2⟩ := hA6.row2
  have hch := ch_row (c' := gc r x6) h2
  have HQ := jd (aI hch.1 (aI (hg6.box h2 hch.2) (aI hc6 (aI (bel_off hA6.bel hch.2 hA6.ge2) (hm6.box h2 hch.2)))))
  have hS7 := aI (hch.2.row hS6.1 hA6.ne.symm) (hch.2.row hS6.2 hA6.ne4)
  refine any_skip (i := 10) (w' := w6.setRow b2 (gc r x6)) (by kernel_rfl) rfl rfl (st_run (s := r) (z := x6) (.tmp 4) (.tmp 23) (by exact rfl) (by go_simp) (by go_simp) h2) ⟨hS7, ?_⟩
  generalize w6.setRow b2 (gc r x6) = w7 at *
  refine any_do (i := 11) (v := .slice aA nA cA) (w' := w7) (by kernel_rfl) rfl rfl (by go_simp) ⟨hS7, ?_⟩
  refine any_do (i := 12) (v := .int .i64 0) (w' := w7) (by kernel_rfl) rfl rfl (by go_simp) ⟨hS7, ?_⟩
  refine wpAnyH_done (by kernel_rfl) ?_ _
  clear hch hS7 h2 hA6 hS6 hS5 hg6 hc6 hm6 hb6 hb5 hS hA
  simp [Act.put]
  go_wp2_with fail
  have q := ju HQ
  exact bodyPost_ret (res3 (p := 4) (q := 5) (r := 6) rfl u31 (zP _ _) q.1 _ _ _ rfl rfl rfl) rfl ⟨_, _, _, rfl, q.2.1, q.2.2.1, q.2.2.2.2, q.2.2.2.1⟩
 ·have HK := jd hk
  clear hk
  go_enter Tryz.func30, Tryz.ntmps30
  go_wp2_with (first
   | go_skip
   | (refine bx_boxK 31 (.tmp 0) (by exact rfl) (by exact rfl) (gc s x) (by exact rfl) ?_; intro b w0 hr0 hs0 hb0; have HR0 := jd hr0; have HB0 := jd (aI hb0 hs0); clear hr0 hs0 hb0)
   | (refine bx_boxK 87 (.tmp 1) (by exact rfl) (by exact rfl) (mg m y) (by exact rfl) ?_; intro b3 w1 hr1 hs1 hb1; have HM0 := jd (aI hr1 hs1); have HB1 := jd hb1; clear hr1 hs1 hb1)
   | (refine bx_new rfl 31 rfl _ Tryz.zeroP ?_; intro b2 w2 hr2 hs2 hb2; have HA := jd (Aq.mk0 (ju HB0).1 (ju HB0).2 (ju HR0) (ju HB1) (ju HM0).2 (ju HM0).1 hb2 hs2 hr2); have m0 := (Mb2.of (ju HA).rm).c0; rw [ju HK] at m0; clear hr2 hs2 hb2 HR0 HB0 HM0 HB1)
   | go_guarded)
  clear m0
  have hA := (ju HA).next (Bel.refl w2).drew
  refine wp_region_held_drew (S := fun w => w.heap[b]? = some (.cells (gc s x) 31) ∧ w.heap[b3]? = some (.cells (mg m y) 87)) Tryz.follows ⟨hA.row, hA.rm⟩ (fun hS => ?_)
  clear HA
  generalize w2.drew = wd at *
  refine any_take (i := 1) (v := .pointer (some ⟨b3, 0, none⟩)) rfl (by kernel_rfl) (fun _ _ _ h => h) rfl hS (fun w hw => by go_simp) ?_
  refine any_take (i := 2) (v := .int .u8 4) rfl (by kernel_rfl) (fun _ _ _ h => h) rfl hS (fun w hw => by have := (Mb2.of hw.2).c0; rw [ju HK] at this; go_simp) ?_
  refine any_ldP (i := 4) (b := b) rfl (by kernel_rfl) (fun _ _ _ h => h) rfl hS rfl (by go_simp) (fun w hw => hw.1) ?_
  refine any_take (i := 5) (v := .agg (mg m y)) rfl (by kernel_rfl) (fun _ _ _ h => h) rfl hS (fun w hw => ldM_run (.tmp 3) (by exact rfl) (by go_simp) hw.2) ?_
  refine any_call (i := 0) (by kernel_rfl) rfl rfl (by go_simp) takings_any ?_
  rintro e w5 ⟨rfl, hb5⟩
  have hS5 := aI (hb5.row hS.1) (hb5.row hS.2)
  refine ⟨_, rfl, hS5, ?_⟩
  refine any_do (i := 3) (v := .func (.func 136) #[] #[]) (by kernel_rfl) rfl rfl (by have := ixt_4 w5; go_simp) ⟨hS5, ?_⟩
  refine any_call (i := 6) (by kernel_rfl) rfl rfl (by go_simp) ((ju HF) w5 (hA.bel.trans hb5)) ?_
  rintro e w6 ⟨x6, aA, cA, rfl, hg6, hc6, hm6, hb6⟩
  have hS6 := aI (hb6.row hS5.1) (hb6.row hS5.2)
  refine ⟨_, rfl, hS6, ?_⟩
  have hA6 := (hA.next hb5).next hb6
  refine any_take (i := 7) (v := .agg (gc r x6)) rfl (by kernel_rfl) (fun _ _ _ h => h) rfl hS6 (fun w hw => by go_simp) ?_
  refine any_take (i := 8) (v := .slice aA nA cA) rfl (by kernel_rfl) (fun _ _ _ h => h) rfl hS6 (fun w hw => by go_simp) ?_
  refine any_take (i := 9) (v := .int .i64 0) rfl (by kernel_rfl) (fun _ _ _ h => h) rfl hS6 (fun w hw => by go_simp) ?_
  obtain ⟨s9, x9, h2⟩ := hA6.row2
  have hch := ch_row (c' := gc r x6) h2
  have HQ := jd (aI hch.1 (aI (hg6.box h2 hch.2) (aI hc6 (aI (bel_off hA6.bel hch.2 hA6.ge2) (hm6.box h2 hch.2)))))
  have hS7 := aI (hch.2.row hS6.1 hA6.ne.symm) (hch.2.row hS6.2 hA6.ne4)
  refine any_skip (i := 10) (w' := w6.setRow b2 (gc r x6)) (by kernel_rfl) rfl rfl (st_run (s := r) (z := x6) (.tmp 4) (.tmp 23) (by exact rfl) (by go_simp) (by go_simp) h2) ⟨hS7, ?_⟩
  generalize w6.setRow b2 (gc r x6) = w7 at *
  refine any_do (i := 11) (v := .slice aA nA cA) (w' := w7) (by kernel_rfl) rfl rfl (by go_simp) ⟨hS7, ?_⟩
  refine any_do (i := 12) (v := .int .i64 0) (w' := w7) (by kernel_rfl) rfl rfl (by go_simp) ⟨hS7, ?_⟩
  refine wpAnyH_done (by kernel_rfl) ?_ _
  clear hch hS7 h2 hA6 hS6 hS5 hg6 hc6 hm6 hb6 hb5 hS hA
  simp [Act.put]
  go_wp2_with fail
  have q := ju HQ
  exact bodyPost_ret (res3 (p := 4) (q := 5) (r := 6) rfl u31 (zP _ _) q.1 _ _ _ rfl rfl rfl) rfl ⟨_, _, _, rfl, q.2.1, q.2.2.1, q.2.2.2.2, q.2.2.2.1⟩
 ·have HK := jd hk
  clear hk
  go_enter Tryz.func30, Tryz.ntmps30
  go_wp2_with (first
   | go_skip
   | (refine bx_boxK 31 (.tmp 0) (by exact rfl) (by exact rfl) (gc s x) (by exact rfl) ?_; intro b w0 hr0 hs0 hb0; have HR0 := jd hr0; have HB0 := jd (aI hb0 hs0); clear hr0 hs0 hb0)
   | (refine bx_boxK 87 (.tmp 1) (by exact rfl) (by exact rfl) (mg m y) (by exact rfl) ?_; intro b3 w1 hr1 hs1 hb1; have HM0 := jd (aI hr1 hs1); have HB1 := jd hb1; clear hr1 hs1 hb1)
   | (refine bx_new rfl 31 rfl _ Tryz.zeroP ?_; intro b2 w2 hr2 hs2 hb2; have HA := jd (Aq.mk0 (ju HB0).1 (ju HB0).2 (ju HR0) (ju HB1) (ju HM0).2 (ju HM0).1 hb2 hs2 hr2); have m0 := (Mb2.of (ju HA).rm).c0; rw [ju HK] at m0; clear hr2 hs2 hb2 HR0 HB0 HM0 HB1)
   | go_guarded)
  clear m0
  have hA := (ju HA).next (Bel.refl w2).drew
  refine wp_region_held_drew (S := fun w => w.heap[b]? = some (.cells (gc s x) 31) ∧ w.heap[b3]? = some (.cells (mg m y) 87)) Tryz.follows ⟨hA.row, hA.rm⟩ (fun hS => ?_)
  clear HA
  generalize w2.drew = wd at *
  refine any_take (i := 1) (v := .pointer (some ⟨b3, 0, none⟩)) rfl (by kernel_rfl) (fun _ _ _ h => h) rfl hS (fun w hw => by go_simp) ?_
  refine any_take (i := 2) (v := .int .u8 5) rfl (by kernel_rfl) (fun _ _ _ h => h) rfl hS (fun w hw => by have := (Mb2.of hw.2).c0; rw [ju HK] at this; go_simp) ?_
  refine any_ldP (i := 4) (b := b) rfl (by kernel_rfl) (fun _ _ _ h => h) rfl hS rfl (by go_simp) (fun w hw => hw.1) ?_
  refine any_take (i := 5) (v := .agg (mg m y)) rfl (by kernel_rfl) (fun _ _ _ h => h) rfl hS (fun w hw => ldM_run (.tmp 3) (by exact rfl) (by go_simp) hw.2) ?_
  refine any_call (i := 0) (by kernel_rfl) rfl rfl (by go_simp) takings_any ?_
  rintro e w5 ⟨rfl, hb5⟩
  have hS5 := aI (hb5.row hS.1) (hb5.row hS.2)
  refine ⟨_, rfl, hS5, ?_⟩
  refine any_do (i := 3) (v := .func (.func 137) #[] #[]) (by kernel_rfl) rfl rfl (by have := ixt_5 w5; go_simp) ⟨hS5, ?_⟩
  refine any_call (i := 6) (by kernel_rfl) rfl rfl (by go_simp) ((ju HF) w5 (hA.bel.trans hb5)) ?_
  rintro e w6 ⟨x6, aA, cA, rfl, hg6, hc6, hm6, hb6⟩
  have hS6 := aI (hb6.row hS5.1) (hb6.row hS5.2)
  refine ⟨_, rfl, hS6, ?_⟩
  have hA6 := (hA.next hb5).next hb6
  refine any_take (i := 7) (v := .agg (gc r x6)) rfl (by kernel_rfl) (fun _ _ _ h => h) rfl hS6 (fun w hw => by go_simp) ?_
  refine any_take (i := 8) (v := .slice aA nA cA) rfl (by kernel_rfl) (fun _ _ _ h => h) rfl hS6 (fun w hw => by go_simp) ?_
  refine any_take (i := 9) (v := .int .i64 0) rfl (by kernel_rfl) (fun _ _ _ h => h) rfl hS6 (fun w hw => by go_simp) ?_
  obtain ⟨s9, x9, h2⟩ := hA6.row2
  have hch := ch_row (c' := gc r x6) h2
  have HQ := jd (aI hch.1 (aI (hg6.box h2 hch.2) (aI hc6 (aI (bel_off hA6.bel hch.2 hA6.ge2) (hm6.box h2 hch.2)))))
  have hS7 := aI (hch.2.row hS6.1 hA6.ne.symm) (hch.2.row hS6.2 hA6.ne4)
  refine any_skip (i := 10) (w' := w6.setRow b2 (gc r x6)) (by kernel_rfl) rfl rfl (st_run (s := r) (z := x6) (.tmp 4) (.tmp 23) (by exact rfl) (by go_simp) (by go_simp) h2) ⟨hS7, ?_⟩
  generalize w6.setRow b2 (gc r x6) = w7 at *
  refine any_do (i := 11) (v := .slice aA nA cA) (w' := w7) (by kernel_rfl) rfl rfl (by go_simp) ⟨hS7, ?_⟩
  refine any_do (i := 12) (v := .int .i64 0) (w' := w7) (by kernel_rfl) rfl rfl (by go_simp) ⟨hS7, ?_⟩
  refine wpAnyH_done (by kernel_rfl) ?_ _
  clear hch hS7 h2 hA6 hS6 hS5 hg6 hc6 hm6 hb6 hb5 hS hA
  simp [Act.put]
  go_wp2_with fail
  have q := ju HQ
  exact bodyPost_ret (res3 (p := 4) (q := 5) (r := 6) rfl u31 (zP _ _) q.1 _ _ _ rfl rfl rfl) rfl ⟨_, _, _, rfl, q.2.1, q.2.2.1, q.2.2.2.2, q.2.2.2.1⟩
end Go.Proofs.YthekbhliokcpcaaGreat
