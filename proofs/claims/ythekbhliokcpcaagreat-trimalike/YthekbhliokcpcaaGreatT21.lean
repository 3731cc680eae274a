/- install of any member. -/
import Derived.Test.YthekbhliokcpcaaGreatT20
namespace Go.Proofs.YthekbhliokcpcaaGreat
open Go.RowKit Go.Maps Go.Sort
theorem ldP_run {a : Act} {o : Oper} {w : World} {s : GP} {x : Px} {b : Nat} (y : Operand) (ho : o.op = .load 31 y) (hx : a.eval y = .pointer (some ⟨b, 0, none⟩)) (hg : w.heap[b]? = some (.cells (gc s x) 31)) : (execOp a.eval o).run Tryz.prog w = .ok (.value (.agg (gc s x))) w := by
 unfold execOp
 simp only [ho, hx, Instr.loadAt, Instr.sureAddr, Sem.run_bind, Sem.run_pure, Result.andThen_ok, run_loadVar_row w b 31 31 _ (0, 0) _ hg u31 rfl (zP s x)]
theorem Pg.lc {base : Nat} {W : World} {s : GP} {x : Px} (h : Pg base W s x) : Lc base x s.log.length := ⟨h.cap, by obtain ⟨L, hl⟩ := h.l; exact hl.row.nw (Nat.le_refl _)⟩
def GP.stay (s : GP) (m : GM) : List GE := if (s.tAt m.index).isSome && ((s.tAt m.index).getD 0 == m.lterm) then s.log.drop (m.index - s.base).toNat else []
def GP.install (s : GP) (m : GM) : GP := { s.cut m.index m.lterm m.mem m.snap (s.stay m) with commit := m.index }
theorem SlGT.nil (W : World) (a : Option Addr) : SlGT W a [] := ⟨[], rfl, SlT.nil _ _ _, fun y hy => by cases hy⟩
set_option maxRecDepth 100000 in
set_option maxHeartbeats 8000000 in
theorem install_g {W : World} {s : GP} {x : Px} {m : GM} {y : GX} (h : Gt W s x) (h0 : 0 ≤ s.base) (hl : s.log.length ≤ 1000000) (hcap : s.log.length ≤ x.cL) (hlm : ∀ e ∈ s.log, e.m.length ≤ 17592186044416) (hw : Gw W m y) (hi : 0 ≤ m.index ∧ m.index ≤ 4611686018427387904) (hmm : m.mem.length ≤ 17592186044416) : Calls Tryz.prog 182 #[.agg (gc s x), .agg (mg m y)] W fun e w' => ∃ x', e = .returned (.agg (gc (s.install m) x')) ∧ Gt w' (s.install m) x' ∧ Lc W.heap.size x' (s.install m).log.length ∧ Bel W w' := by
 have HT : Hid (∀ W', Bel W W' → Calls Tryz.prog 74 #[.agg (gc s x), .int .u64 m.index] W' fun e w' => e = .returned (.tuple #[.int .u64 ((s.tAt m.index).getD 0), .bool (s.tAt m.index).isSome]) ∧ Bel W' w') := jd (fun W' hb => term_g (h.gp.l.bel hb) m.index h0 ⟨hi.1, by omega⟩ hl)
 have HCl : Hid (∀ w1, Bel W w1 → Calls Tryz.prog 99 #[.slice y.ma m.mem.length y.mc] w1 fun e w' => ∃ a' c', e = .returned (.slice a' m.mem.length c') ∧ SlT E3 w' a' m.mem ∧ Bel w1 w') := jd (fun w1 hb => (clone3w rfl (hw.m.bel hb) (by omega)).mono (fun e w' ⟨a', c', he, ho, hb'⟩ => ⟨a', c', he, SlT.of ho, hb'⟩))
 obtain ⟨l, hL⟩ : ∃ l, l = s.stay m := ⟨_, rfl⟩
 obtain ⟨rc, hrc⟩ : ∃ rc, rc = s.cut m.index m.lterm m.mem m.snap l := ⟨_, rfl⟩
 have hin : s.install m = { rc with commit := m.index } := by rw [hrc, hL]; rfl
 have hbi : rc.base = m.index := by rw [hrc]; rfl
 have HE : Hid (s.install m = { rc with commit := rc.base }) := jd (hin.trans (congrArg (fun c => ({ rc with commit := c } : GP)) hbi.symm))
 have hll : l.length ≤ 1000000 := by
  rw [hL]; unfold GP.stay
  split
  ·rw [List.length_drop]; omega
  ·simp
 have hlm2 : ∀ e ∈ l, e.m.length ≤ 17592186044416 := by
  rw [hL]; unfold GP.stay
  split
  ·exact fun e he => hlm e (List.mem_of_mem_drop he)
  ·intro e he; cases he
 have HCu : Hid (∀ w1 aB cB aL, Bel W w1 → SlT E3 w1 aB m.mem → SlGT w1 aL l → Nw W.heap.size aL l.length → Calls Tryz.prog 76 #[.agg (gc s x), .agg (snc m.index m.lterm m.mem aB cB m.snap), .slice aL l.length l.length] w1 fun e w' => ∃ x2, e = .returned (.agg (gc rc x2)) ∧ Gt w' rc x2 ∧ Lc W.heap.size x2 rc.log.length ∧ Bel w1 w') := jd (fun w1 aB cB aL hb hB hl1 hnw => by
  refine (cut_g (s := s) (x := x) (i := m.index) (t := m.lterm) (d := m.snap) (cB := cB) (cL := l.length) hB.1 hl1.sl hi hll (Nat.le_refl _) hmm hlm2).mono ?_
  rintro e w' ⟨aM, cM, he, ho, hb'⟩
  have hp := h.bel hb
  rw [hrc]
  exact ⟨_, he, ⟨SlT.of ho, hB.bel hb', hl1.bel hb', hp.v.bel hb', hp.f.bel hb', hp.r.bel hb'⟩, ⟨Nat.le_refl _, hnw⟩, hb'⟩)
 rw [ju HE]
 by_cases c1 : (s.tAt m.index).isSome = true
 ·by_cases c2 : (s.tAt m.index).getD 0 = m.lterm
  ·obtain ⟨k, hk, hk2⟩ : ∃ k : Nat, m.index - s.base = k ∧ k ≤ s.log.length := by
    unfold GP.tAt GP.upTo at c1
    by_cases q : m.index < s.base ∨ (s.log.length : Int) < m.index - s.base
    ·rw [if_pos q] at c1; cases c1
    ·exact ⟨(m.index - s.base).toNat, by omega, by omega⟩
   have e9 : l = s.log.drop k := by
    rw [hL]; unfold GP.stay
    rw [c1, c2, if_pos (by simp), hk]; rfl
   have HTl : Hid (∀ W', Bel W W' → Calls Tryz.prog 77 #[.agg (gc s x), .int .u64 m.index] W' fun e w' => ∃ a', e = .returned (.slice a' l.length l.length) ∧ SlGT w' a' l ∧ Nw W.heap.size a' l.length ∧ Bel W' w') := jd (fun W' hb => by rw [e9]; exact (tail_g (h.gp.l.bel hb) m.index k hk2 hk hl hcap hlm).mono (fun e w' ⟨a', e1, e2, e3, e4⟩ => ⟨a', e1, e2, e3.mono hb.size, e4⟩))
   have d2 : ((s.tAt m.index).getD 0 == m.lterm) = true := by simp [c2]
   rw [c1] at HT
   generalize (s.tAt m.index).getD 0 = t0 at *
   generalize l.length = nL at *
   clear h h0 hl hcap hlm hw hi hmm hL hrc hin hbi hll hlm2 HE c1 c2 hk hk2 e9
   go_enter Tryz.func182, Tryz.ntmps182
   go_wp2_with (first
    | go_skip
    | (refine bx_boxK 31 (.tmp 0) (by exact rfl) (by exact rfl) (gc s x) (by exact rfl) ?_; intro b w0 hr0 hs0 hb0; have HR0 := jd hr0; have HB0 := jd (aI hb0 hs0); clear hr0 hs0 hb0)
    | (refine bx_boxK 87 (.tmp 1) (by exact rfl) (by exact rfl) (mg m y) (by exact rfl) ?_; intro b3 w1 hr1 hs1 hb1; have HM0 := jd (aI hr1 hs1); have HB1 := jd hb1; clear hr1 hs1 hb1)
    | (refine bx_new rfl 31 rfl _ Tryz.zeroP ?_; intro b2 w2 hr2 hs2 hb2; have HA := jd (Aq.mk0 (ju HB0).1 (ju HB0).2 (ju HR0) (ju HB1) (ju HM0).2 (ju HM0).1 hb2 hs2 hr2); have m4 := (Mb2.of (ju HA).rm).c4; have m5 := (Mb2.of (ju HA).rm).c5; clear hr2 hs2 hb2 HR0 HB0 HM0 HB1)
    | (refine bx_ldK 31 (.tmp 2) (by exact rfl) b (by exact rfl) (by exact rfl) _ _ (ju HA).row u31 (zP _ _) ?_)
    | (go_at_call 74; refine ((ju HT) _ (ju HA).bel).mono ?_; rintro e w3 ⟨rfl, hb3⟩; replace HA := jd ((ju HA).next hb3); have m4 := (Mb2.of (ju HA).rm).c4; have m5 := (Mb2.of (ju HA).rm).c5; clear hb3)
    | (go_at_call 77; refine ((ju HTl) _ (ju HA).bel).mono ?_; rintro e w4 ⟨aL, rfl, hsl, hnl, hb4⟩; have HSL := jd (aI hsl hnl); replace HA := jd ((ju HA).next hb4); clear hsl hnl hb4)
    | go_guarded)
   clear m4 m5
   have hA := (ju HA).next (Bel.refl w4).drew
   have HSX := jd (aI ((ju HSL).1.bel (Bel.refl w4).drew) (ju HSL).2)
   refine wp_region_held_drew (S := fun w => w.heap[b3]? = some (.cells (mg m y) 87)) Tryz.follows hA.rm (fun hS => ?_)
   clear HA
   generalize w4.drew = wd at *
   refine any_take (i := 1) (v := .pointer (some ⟨b3, 4, none⟩)) rfl (by kernel_rfl) (fun _ _ _ h => h) rfl hS (fun w hw => by go_simp) ?_
   refine any_take (i := 2) (v := .int .u64 m.index) rfl (by kernel_rfl) (fun _ _ _ h => h) rfl hS (fun w hw => by have := (Mb2.of hw).c4; go_simp) ?_
   refine any_take (i := 3) (v := .pointer (some ⟨b3, 5, none⟩)) rfl (by kernel_rfl) (fun _ _ _ h => h) rfl hS (fun w hw => by go_simp) ?_
   refine any_take (i := 4) (v := .int .u64 m.lterm) rfl (by kernel_rfl) (fun _ _ _ h => h) rfl hS (fun w hw => by have := (Mb2.of hw).c5; go_simp) ?_
   refine any_take (i := 5) (v := .pointer (some ⟨b3, 10, none⟩)) rfl (by kernel_rfl) (fun _ _ _ h => h) rfl hS (fun w hw => by go_simp) ?_
   refine any_take (i := 6) (v := .slice y.ma m.mem.length y.mc) rfl (by kernel_rfl) (fun _ _ _ h => h) rfl hS (fun w hw => by have := (Mb2.of hw).c10; go_simp) ?_
   refine any_take (i := 8) (v := .pointer (some ⟨b3, 11, none⟩)) rfl (by kernel_rfl) (fun _ _ _ h => h) rfl hS (fun w hw => by go_simp) ?_
   refine any_take (i := 9) (v := .string m.snap) rfl (by kernel_rfl) (fun _ _ _ h => h) rfl hS (fun w hw => by have := (Mb2.of hw).c11; go_simp) ?_
   refine any_take (i := 11) (v := .slice aL nL nL) rfl (by kernel_rfl) (fun _ _ _ h => h) rfl hS (fun w hw => by go_simp) ?_
   have hld : ∀ w1, w1.heap[b]? = some (.cells (gc s x) 31) → (loadVar 31 ⟨b, 0, none⟩).run Tryz.prog w1 = .ok (.agg (gc s x)) w1 := fun w1 h1 => run_loadVar_row w1 b 31 31 _ (0, 0) _ h1 u31 rfl (zP s x)
   refine any_vc (i := 0) (j := 7) (v := .agg (gc s x)) (by kernel_rfl) rfl rfl rfl rfl (ldP_run (.tmp 2) (by exact rfl) (by go_simp) hA.row) (by go_simp) ((ju HCl) wd hA.bel) ⟨hS, ?_⟩ ?_
   ·refine any_call (i := 7) (by kernel_rfl) rfl rfl (by go_simp) ((ju HCl) wd hA.bel) ?_
    rintro e w5 ⟨aB, cB, rfl, hsB, hb5⟩
    have hS5 := hb5.row hS
    have hA5 := hA.next hb5
    refine ⟨_, rfl, hS5, ?_⟩
    refine any_do (i := 10) (v := .agg (snc m.index m.lterm m.mem aB cB m.snap)) (w' := w5) (by kernel_rfl) rfl rfl (by unfold snc; go_simp) ⟨hS5, ?_⟩
    refine any_call (i := 12) (by kernel_rfl) rfl rfl (by go_simp) ((ju HCu) w5 aB cB aL (hA.bel.trans hb5) hsB ((ju HSX).1.bel hb5) (ju HSX).2) ?_
    rintro e w6 ⟨x6, rfl, hg6, hc6, hb6⟩
    have hS6 := hb6.row hS5
    refine ⟨_, rfl, hS6, ?_⟩
    have hA6 := hA5.next hb6
    have hch := ch_row (c' := gc rc x6) hA6.row
    have HA7 := jd (hA6.set (s' := rc) (x' := x6) hch.1 hch.2)
    have HG7 := jd (aI (hg6.box hA6.row hch.2) hc6)
    refine any_skip (i := 13) (w' := w6.setRow b (gc rc x6)) (by kernel_rfl) rfl rfl (st_run (s := rc) (z := x6) (.tmp 2) (.tmp 38) (by exact rfl) (by go_simp) (by go_simp) hA6.row) ⟨hch.2.row hS6 hA6.ne3, ?_⟩
    refine wpAnyH_done (by kernel_rfl) ?_ _
    have y6 := (Bg.of (ju HA7).row).c6
    generalize w6.setRow b (gc rc x6) = w7 at *
    clear hch hA6 hS6 hb6 hg6 hc6
    go_wp2_with (first
     | go_skip
     | (refine gl_commit rfl _ _ rfl b _ rfl rfl (ju HA7).row ?_; intro w8 hr8 hc8; have HG8 := jd (aI ((ju HG7).1.box (ju HA7).row hc8) (ju HG7).2); have HA8 := jd ((ju HA7).set hr8 hc8); clear hr8 hc8 HA7 HG7)
     | (refine bx_ldK 31 (.tmp 2) (by exact rfl) b (by exact rfl) (by exact rfl) _ _ (ju HA8).row u31 (zP _ _) ?_)
     | go_guarded
     | (obtain ⟨s2, x2, h2⟩ := (ju HA8).row2; refine bx_st rfl 31 (.tmp 4) _ rfl b2 _ _ rfl rfl h2 (zP _ _) rfl (gc_one _ _) ?_; intro w9 hr9 hc9; have HR9 := jd (aI hr9 (aI ((ju HG8).1.box h2 hc9) (aI (ju HG8).2 (bel_off (ju HA8).bel hc9 (ju HA8).ge2)))); clear hr9 hc9 h2))
    have q := (ju HR9).2.1
    exact bodyPost_ret (res1 (p := 4) rfl u31 (zP _ _) (ju HR9).1 _ rfl) rfl ⟨_, rfl, ⟨q.m, q.b, q.l, q.v, q.f, q.r⟩, (ju HR9).2.2.1, (ju HR9).2.2.2⟩
   ·rintro e w5 ⟨aB, cB, rfl, hsB, hb5⟩
    have hS5 := hb5.row hS
    have hA5 := hA.next hb5
    refine ⟨_, rfl, hS5, ?_⟩
    refine any_vv (i := 0) (j := 10) (vi := .agg (gc s x)) (vj := .agg (snc m.index m.lterm m.mem aB cB m.snap)) (wi := w5) (wj := w5) (by kernel_rfl) rfl rfl rfl rfl (ldP_run (.tmp 2) (by exact rfl) (by go_simp) hA5.row) (by unfold snc; go_simp) ⟨hS5, ?_⟩ ⟨hS5, ?_⟩
    ·refine any_do (i := 10) (v := .agg (snc m.index m.lterm m.mem aB cB m.snap)) (w' := w5) (by kernel_rfl) rfl rfl (by unfold snc; go_simp) ⟨hS5, ?_⟩
     refine any_call (i := 12) (by kernel_rfl) rfl rfl (by go_simp) ((ju HCu) w5 aB cB aL (hA.bel.trans hb5) hsB ((ju HSX).1.bel hb5) (ju HSX).2) ?_
     rintro e w6 ⟨x6, rfl, hg6, hc6, hb6⟩
     have hS6 := hb6.row hS5
     refine ⟨_, rfl, hS6, ?_⟩
     have hA6 := hA5.next hb6
     have hch := ch_row (c' := gc rc x6) hA6.row
     have HA7 := jd (hA6.set (s' := rc) (x' := x6) hch.1 hch.2)
     have HG7 := jd (aI (hg6.box hA6.row hch.2) hc6)
     refine any_skip (i := 13) (w' := w6.setRow b (gc rc x6)) (by kernel_rfl) rfl rfl (st_run (s := rc) (z := x6) (.tmp 2) (.tmp 38) (by exact rfl) (by go_simp) (by go_simp) hA6.row) ⟨hch.2.row hS6 hA6.ne3, ?_⟩
     refine wpAnyH_done (by kernel_rfl) ?_ _
     have y6 := (Bg.of (ju HA7).row).c6
     generalize w6.setRow b (gc rc x6) = w7 at *
     clear hch hA6 hS6 hb6 hg6 hc6
     go_wp2_with (first
      | go_skip
      | (refine gl_commit rfl _ _ rfl b _ rfl rfl (ju HA7).row ?_; intro w8 hr8 hc8; have HG8 := jd (aI ((ju HG7).1.box (ju HA7).row hc8) (ju HG7).2); have HA8 := jd ((ju HA7).set hr8 hc8); clear hr8 hc8 HA7 HG7)
      | (refine bx_ldK 31 (.tmp 2) (by exact rfl) b (by exact rfl) (by exact rfl) _ _ (ju HA8).row u31 (zP _ _) ?_)
      | go_guarded
      | (obtain ⟨s2, x2, h2⟩ := (ju HA8).row2; refine bx_st rfl 31 (.tmp 4) _ rfl b2 _ _ rfl rfl h2 (zP _ _) rfl (gc_one _ _) ?_; intro w9 hr9 hc9; have HR9 := jd (aI hr9 (aI ((ju HG8).1.box h2 hc9) (aI (ju HG8).2 (bel_off (ju HA8).bel hc9 (ju HA8).ge2)))); clear hr9 hc9 h2))
     have q := (ju HR9).2.1
     exact bodyPost_ret (res1 (p := 4) rfl u31 (zP _ _) (ju HR9).1 _ rfl) rfl ⟨_, rfl, ⟨q.m, q.b, q.l, q.v, q.f, q.r⟩, (ju HR9).2.2.1, (ju HR9).2.2.2⟩
    ·refine any_do (i := 0) (v := .agg (gc s x)) (w' := w5) (by kernel_rfl) rfl rfl (ldP_run (.tmp 2) (by exact rfl) (by go_simp) hA5.row) ⟨hS5, ?_⟩
     refine any_call (i := 12) (by kernel_rfl) rfl rfl (by go_simp) ((ju HCu) w5 aB cB aL (hA.bel.trans hb5) hsB ((ju HSX).1.bel hb5) (ju HSX).2) ?_
     rintro e w6 ⟨x6, rfl, hg6, hc6, hb6⟩
     have hS6 := hb6.row hS5
     refine ⟨_, rfl, hS6, ?_⟩
     have hA6 := hA5.next hb6
     have hch := ch_row (c' := gc rc x6) hA6.row
     have HA7 := jd (hA6.set (s' := rc) (x' := x6) hch.1 hch.2)
     have HG7 := jd (aI (hg6.box hA6.row hch.2) hc6)
     refine any_skip (i := 13) (w' := w6.setRow b (gc rc x6)) (by kernel_rfl) rfl rfl (st_run (s := rc) (z := x6) (.tmp 2) (.tmp 38) (by exact rfl) (by go_simp) (by go_simp) hA6.row) ⟨hch.2.row hS6 hA6.ne3, ?_⟩
     refine wpAnyH_done (by kernel_rfl) ?_ _
     have y6 := (Bg.of (ju HA7).row).c6
     generalize w6.setRow b (gc rc x6) = w7 at *
     clear hch hA6 hS6 hb6 hg6 hc6
     go_wp2_with (first
      | go_skip
      | (refine gl_commit rfl _ _ rfl b _ rfl rfl (ju HA7).row ?_; intro w8 hr8 hc8; have HG8 := jd (aI ((ju HG7).1.box (ju HA7).row hc8) (ju HG7).2); have HA8 := jd ((ju HA7).set hr8 hc8); clear hr8 hc8 HA7 HG7)
      | (refine bx_ldK 31 (.tmp 2) (by exact rfl) b (by exact rfl) (by exact rfl) _ _ (ju HA8).row u31 (zP _ _) ?_)
      | go_guarded
      | (obtain ⟨s2, x2, h2⟩ := (ju HA8).row2; refine bx_st rfl 31 (.tmp 4) _ rfl b2 _ _ rfl rfl h2 (zP _ _) rfl (gc_one _ _) ?_; intro w9 hr9 hc9; have HR9 := jd (aI hr9 (aI ((ju HG8).1.box h2 hc9) (aI (ju HG8).2 (bel_off (ju HA8).bel hc9 (ju HA8).ge2)))); clear hr9 hc9 h2))
     have q := (ju HR9).2.1
     exact bodyPost_ret (res1 (p := 4) rfl u31 (zP _ _) (ju HR9).1 _ rfl) rfl ⟨_, rfl, ⟨q.m, q.b, q.l, q.v, q.f, q.r⟩, (ju HR9).2.2.1, (ju HR9).2.2.2⟩
  ·have e9 : l = [] := by
    rw [hL]; unfold GP.stay
    rw [if_neg (by simp [c2])]
   have d2 : ((s.tAt m.index).getD 0 == m.lterm) = false := by simp [c2]
   rw [c1] at HT
   generalize (s.tAt m.index).getD 0 = t0 at *
   rw [e9] at HCu
   rw [show ([] : List GE).length = 0 from rfl] at HCu
   clear h h0 hl hcap hlm hw hi hmm hL hrc hin hbi hll hlm2 HE c1 c2 e9
   go_enter Tryz.func182, Tryz.ntmps182
   go_wp2_with (first
    | go_skip
    | (refine bx_boxK 31 (.tmp 0) (by exact rfl) (by exact rfl) (gc s x) (by exact rfl) ?_; intro b w0 hr0 hs0 hb0; have HR0 := jd hr0; have HB0 := jd (aI hb0 hs0); clear hr0 hs0 hb0)
    | (refine bx_boxK 87 (.tmp 1) (by exact rfl) (by exact rfl) (mg m y) (by exact rfl) ?_; intro b3 w1 hr1 hs1 hb1; have HM0 := jd (aI hr1 hs1); have HB1 := jd hb1; clear hr1 hs1 hb1)
    | (refine bx_new rfl 31 rfl _ Tryz.zeroP ?_; intro b2 w2 hr2 hs2 hb2; have HA := jd (Aq.mk0 (ju HB0).1 (ju HB0).2 (ju HR0) (ju HB1) (ju HM0).2 (ju HM0).1 hb2 hs2 hr2); have m4 := (Mb2.of (ju HA).rm).c4; have m5 := (Mb2.of (ju HA).rm).c5; clear hr2 hs2 hb2 HR0 HB0 HM0 HB1)
    | (refine bx_ldK 31 (.tmp 2) (by exact rfl) b (by exact rfl) (by exact rfl) _ _ (ju HA).row u31 (zP _ _) ?_)
    | (go_at_call 74; refine ((ju HT) _ (ju HA).bel).mono ?_; rintro e w3 ⟨rfl, hb3⟩; replace HA := jd ((ju HA).next hb3); have m4 := (Mb2.of (ju HA).rm).c4; have m5 := (Mb2.of (ju HA).rm).c5; clear hb3)
    | go_guarded)
   clear m4 m5
   have hA := (ju HA).next (Bel.refl w3).drew
   have HSX := jd (aI (SlGT.nil w3.drew none) (Nw.zero W.heap.size none))
   refine wp_region_held_drew (S := fun w => w.heap[b3]? = some (.cells (mg m y) 87)) Tryz.follows hA.rm (fun hS => ?_)
   clear HA
   generalize w3.drew = wd at *
   refine any_take (i := 1) (v := .pointer (some ⟨b3, 4, none⟩)) rfl (by kernel_rfl) (fun _ _ _ h => h) rfl hS (fun w hw => by go_simp) ?_
   refine any_take (i := 2) (v := .int .u64 m.index) rfl (by kernel_rfl) (fun _ _ _ h => h) rfl hS (fun w hw => by have := (Mb2.of hw).c4; go_simp) ?_
   refine any_take (i := 3) (v := .pointer (some ⟨b3, 5, none⟩)) rfl (by kernel_rfl) (fun _ _ _ h => h) rfl hS (fun w hw => by go_simp) ?_
   refine any_take (i := 4) (v := .int .u64 m.lterm) rfl (by kernel_rfl) (fun _ _ _ h => h) rfl hS (fun w hw => by have := (Mb2.of hw).c5; go_simp) ?_
   refine any_take (i := 5) (v := .pointer (some ⟨b3, 10, none⟩)) rfl (by kernel_rfl) (fun _ _ _ h => h) rfl hS (fun w hw => by go_simp) ?_
   refine any_take (i := 6) (v := .slice y.ma m.mem.length y.mc) rfl (by kernel_rfl) (fun _ _ _ h => h) rfl hS (fun w hw => by have := (Mb2.of hw).c10; go_simp) ?_
   refine any_take (i := 8) (v := .pointer (some ⟨b3, 11, none⟩)) rfl (by kernel_rfl) (fun _ _ _ h => h) rfl hS (fun w hw => by go_simp) ?_
   refine any_take (i := 9) (v := .string m.snap) rfl (by kernel_rfl) (fun _ _ _ h => h) rfl hS (fun w hw => by have := (Mb2.of hw).c11; go_simp) ?_
   refine any_take (i := 11) (v := .slice none 0 0) rfl (by kernel_rfl) (fun _ _ _ h => h) rfl hS (fun w hw => by go_simp) ?_
   have hld : ∀ w1, w1.heap[b]? = some (.cells (gc s x) 31) → (loadVar 31 ⟨b, 0, none⟩).run Tryz.prog w1 = .ok (.agg (gc s x)) w1 := fun w1 h1 => run_loadVar_row w1 b 31 31 _ (0, 0) _ h1 u31 rfl (zP s x)
   refine any_vc (i := 0) (j := 7) (v := .agg (gc s x)) (by kernel_rfl) rfl rfl rfl rfl (ldP_run (.tmp 2) (by exact rfl) (by go_simp) hA.row) (by go_simp) ((ju HCl) wd hA.bel) ⟨hS, ?_⟩ ?_
   ·refine any_call (i := 7) (by kernel_rfl) rfl rfl (by go_simp) ((ju HCl) wd hA.bel) ?_
    rintro e w5 ⟨aB, cB, rfl, hsB, hb5⟩
    have hS5 := hb5.row hS
    have hA5 := hA.next hb5
    refine ⟨_, rfl, hS5, ?_⟩
    refine any_do (i := 10) (v := .agg (snc m.index m.lterm m.mem aB cB m.snap)) (w' := w5) (by kernel_rfl) rfl rfl (by unfold snc; go_simp) ⟨hS5, ?_⟩
    refine any_call (i := 12) (by kernel_rfl) rfl rfl (by go_simp) ((ju HCu) w5 aB cB none (hA.bel.trans hb5) hsB ((ju HSX).1.bel hb5) (ju HSX).2) ?_
    rintro e w6 ⟨x6, rfl, hg6, hc6, hb6⟩
    have hS6 := hb6.row hS5
    refine ⟨_, rfl, hS6, ?_⟩
    have hA6 := hA5.next hb6
    have hch := ch_row (c' := gc rc x6) hA6.row
    have HA7 := jd (hA6.set (s' := rc) (x' := x6) hch.1 hch.2)
    have HG7 := jd (aI (hg6.box hA6.row hch.2) hc6)
    refine any_skip (i := 13) (w' := w6.setRow b (gc rc x6)) (by kernel_rfl) rfl rfl (st_run (s := rc) (z := x6) (.tmp 2) (.tmp 38) (by exact rfl) (by go_simp) (by go_simp) hA6.row) ⟨hch.2.row hS6 hA6.ne3, ?_⟩
    refine wpAnyH_done (by kernel_rfl) ?_ _
    have y6 := (Bg.of (ju HA7).row).c6
    generalize w6.setRow b (gc rc x6) = w7 at *
    clear hch hA6 hS6 hb6 hg6 hc6
    go_wp2_with (first
     | go_skip
     | (refine gl_commit rfl _ _ rfl b _ rfl rfl (ju HA7).row ?_; intro w8 hr8 hc8; have HG8 := jd (aI ((ju HG7).1.box (ju HA7).row hc8) (ju HG7).2); have HA8 := jd ((ju HA7).set hr8 hc8); clear hr8 hc8 HA7 HG7)
     | (refine bx_ldK 31 (.tmp 2) (by exact rfl) b (by exact rfl) (by exact rfl) _ _ (ju HA8).row u31 (zP _ _) ?_)
     | go_guarded
     | (obtain ⟨s2, x2, h2⟩ := (ju HA8).row2; refine bx_st rfl 31 (.tmp 4) _ rfl b2 _ _ rfl rfl h2 (zP _ _) rfl (gc_one _ _) ?_; intro w9 hr9 hc9; have HR9 := jd (aI hr9 (aI ((ju HG8).1.box h2 hc9) (aI (ju HG8).2 (bel_off (ju HA8).bel hc9 (ju HA8).ge2)))); clear hr9 hc9 h2))
    have q := (ju HR9).2.1
    exact bodyPost_ret (res1 (p := 4) rfl u31 (zP _ _) (ju HR9).1 _ rfl) rfl ⟨_, rfl, ⟨q.m, q.b, q.l, q.v, q.f, q.r⟩, (ju HR9).2.2.1, (ju HR9).2.2.2⟩
   ·rintro e w5 ⟨aB, cB, rfl, hsB, hb5⟩
    have hS5 := hb5.row hS
    have hA5 := hA.next hb5
    refine ⟨_, rfl, hS5, ?_⟩
    refine any_vv (i := 0) (j := 10) (vi := .agg (gc s x)) (vj := .agg (snc m.index m.lterm m.mem aB cB m.snap)) (wi := w5) (wj := w5) (by kernel_rfl) rfl rfl rfl rfl (ldP_run (.tmp 2) (by exact rfl) (by go_simp) hA5.row) (by unfold snc; go_simp) ⟨hS5, ?_⟩ ⟨hS5, ?_⟩
    ·refine any_do (i := 10) (v := .agg (snc m.index m.lterm m.mem aB cB m.snap)) (w' := w5) (by kernel_rfl) rfl rfl (by unfold snc; go_simp) ⟨hS5, ?_⟩
     refine any_call (i := 12) (by kernel_rfl) rfl rfl (by go_simp) ((ju HCu) w5 aB cB none (hA.bel.trans hb5) hsB ((ju HSX).1.bel hb5) (ju HSX).2) ?_
     rintro e w6 ⟨x6, rfl, hg6, hc6, hb6⟩
     have hS6 := hb6.row hS5
     refine ⟨_, rfl, hS6, ?_⟩
     have hA6 := hA5.next hb6
     have hch := ch_row (c' := gc rc x6) hA6.row
     have HA7 := jd (hA6.set (s' := rc) (x' := x6) hch.1 hch.2)
     have HG7 := jd (aI (hg6.box hA6.row hch.2) hc6)
     refine any_skip (i := 13) (w' := w6.setRow b (gc rc x6)) (by kernel_rfl) rfl rfl (st_run (s := rc) (z := x6) (.tmp 2) (.tmp 38) (by exact rfl) (by go_simp) (by go_simp) hA6.row) ⟨hch.2.row hS6 hA6.ne3, ?_⟩
     refine wpAnyH_done (by kernel_rfl) ?_ _
     have y6 := (Bg.of (ju HA7).row).c6
     generalize w6.setRow b (gc rc x6) = w7 at *
     clear hch hA6 hS6 hb6 hg6 hc6
     go_wp2_with (first
      | go_skip
      | (refine gl_commit rfl _ _ rfl b _ rfl rfl (ju HA7).row ?_; intro w8 hr8 hc8; have HG8 := jd (aI ((ju HG7).1.box (ju HA7).row hc8) (ju HG7).2); have HA8 := jd ((ju HA7).set hr8 hc8); clear hr8 hc8 HA7 HG7)
      | (refine bx_ldK 31 (.tmp 2) (by exact rfl) b (by exact rfl) (by exact rfl) _ _ (ju HA8).row u31 (zP _ _) ?_)
      | go_guarded
      | (obtain ⟨s2, x2, h2⟩ := (ju HA8).row2; refine bx_st rfl 31 (.tmp 4) _ rfl b2 _ _ rfl rfl h2 (zP _ _) rfl (gc_one _ _) ?_; intro w9 hr9 hc9; have HR9 := jd (aI hr9 (aI ((ju HG8).1.box h2 hc9) (aI (ju HG8).2 (bel_off (ju HA8).bel hc9 (ju HA8).ge2)))); clear hr9 hc9 h2))
     have q := (ju HR9).2.1
     exact bodyPost_ret (res1 (p := 4) rfl u31 (zP _ _) (ju HR9).1 _ rfl) rfl ⟨_, rfl, ⟨q.m, q.b, q.l, q.v, q.f, q.r⟩, (ju HR9).2.2.1, (ju HR9).2.2.2⟩
    ·refine any_do (i := 0) (v := .agg (gc s x)) (w' := w5) (by kernel_rfl) rfl rfl (ldP_run (.tmp 2) (by exact rfl) (by go_simp) hA5.row) ⟨hS5, ?_⟩
     refine any_call (i := 12) (by kernel_rfl) rfl rfl (by go_simp) ((ju HCu) w5 aB cB none (hA.bel.trans hb5) hsB ((ju HSX).1.bel hb5) (ju HSX).2) ?_
     rintro e w6 ⟨x6, rfl, hg6, hc6, hb6⟩
     have hS6 := hb6.row hS5
     refine ⟨_, rfl, hS6, ?_⟩
     have hA6 := hA5.next hb6
     have hch := ch_row (c' := gc rc x6) hA6.row
     have HA7 := jd (hA6.set (s' := rc) (x' := x6) hch.1 hch.2)
     have HG7 := jd (aI (hg6.box hA6.row hch.2) hc6)
     refine any_skip (i := 13) (w' := w6.setRow b (gc rc x6)) (by kernel_rfl) rfl rfl (st_run (s := rc) (z := x6) (.tmp 2) (.tmp 38) (by exact rfl) (by go_simp) (by go_simp) hA6.row) ⟨hch.2.row hS6 hA6.ne3, ?_⟩
     refine wpAnyH_done (by kernel_rfl) ?_ _
     have y6 := (Bg.of (ju HA7).row).c6
     generalize w6.setRow b (gc rc x6) = w7 at *
     clear hch hA6 hS6 hb6 hg6 hc6
     go_wp2_with (first
      | go_skip
      | (refine gl_commit rfl _ _ rfl b _ rfl rfl (ju HA7).row ?_; intro w8 hr8 hc8; have HG8 := jd (aI ((ju HG7).1.box (ju HA7).row hc8) (ju HG7).2); have HA8 := jd ((ju HA7).set hr8 hc8); clear hr8 hc8 HA7 HG7)
      | (refine bx_ldK 31 (.tmp 2) (by exact rfl) b (by exact rfl) (by exact rfl) _ _ (ju HA8).row u31 (zP _ _) ?_)
      | go_guarded
      | (obtain ⟨s2, x2, h2⟩ := (ju HA8).row2; refine bx_st rfl 31 (.tmp 4) _ rfl b2 _ _ rfl rfl h2 (zP _ _) rfl (gc_one _ _) ?_; intro w9 hr9 hc9; have HR9 := jd (aI hr9 (aI ((ju HG8).1.box h2 hc9) (aI (ju HG8).2 (bel_off (ju HA8).bel hc9 (ju HA8).ge2)))); clear hr9 hc9 h2))
     have q := (ju HR9).2.1
     exact bodyPost_ret (res1 (p := 4) rfl u31 (zP _ _) (ju HR9).1 _ rfl) rfl ⟨_, rfl, ⟨q.m, q.b, q.l, q.v, q.f, q.r⟩, (ju HR9).2.2.1, (ju HR9).2.2.2⟩
 ·have e9 : l = [] := by
   rw [hL]; unfold GP.stay
   rw [if_neg (by simp [c1])]
  have c1' : (s.tAt m.index).isSome = false := by simpa using c1
  rw [c1'] at HT
  generalize (s.tAt m.index).getD 0 = t0 at *
  rw [e9] at HCu
  rw [show ([] : List GE).length = 0 from rfl] at HCu
  clear h h0 hl hcap hlm hw hi hmm hL hrc hin hbi hll hlm2 HE c1 c1' e9
  go_enter Tryz.func182, Tryz.ntmps182
  go_wp2_with (first
   | go_skip
   | (refine bx_boxK 31 (.tmp 0) (by exact rfl) (by exact rfl) (gc s x) (by exact rfl) ?_; intro b w0 hr0 hs0 hb0; have HR0 := jd hr0; have HB0 := jd (aI hb0 hs0); clear hr0 hs0 hb0)
   | (refine bx_boxK 87 (.tmp 1) (by exact rfl) (by exact rfl) (mg m y) (by exact rfl) ?_; intro b3 w1 hr1 hs1 hb1; have HM0 := jd (aI hr1 hs1); have HB1 := jd hb1; clear hr1 hs1 hb1)
   | (refine bx_new rfl 31 rfl _ Tryz.zeroP ?_; intro b2 w2 hr2 hs2 hb2; have HA := jd (Aq.mk0 (ju HB0).1 (ju HB0).2 (ju HR0) (ju HB1) (ju HM0).2 (ju HM0).1 hb2 hs2 hr2); have m4 := (Mb2.of (ju HA).rm).c4; have m5 := (Mb2.of (ju HA).rm).c5; clear hr2 hs2 hb2 HR0 HB0 HM0 HB1)
   | (refine bx_ldK 31 (.tmp 2) (by exact rfl) b (by exact rfl) (by exact rfl) _ _ (ju HA).row u31 (zP _ _) ?_)
   | (go_at_call 74; refine ((ju HT) _ (ju HA).bel).mono ?_; rintro e w3 ⟨rfl, hb3⟩; replace HA := jd ((ju HA).next hb3); have m4 := (Mb2.of (ju HA).rm).c4; have m5 := (Mb2.of (ju HA).rm).c5; clear hb3)
   | go_guarded)
  clear m4 m5
  have hA := (ju HA).next (Bel.refl w3).drew
  have HSX := jd (aI (SlGT.nil w3.drew none) (Nw.zero W.heap.size none))
  refine wp_region_held_drew (S := fun w => w.heap[b3]? = some (.cells (mg m y) 87)) Tryz.follows hA.rm (fun hS => ?_)
  clear HA
  generalize w3.drew = wd at *
  refine any_take (i := 1) (v := .pointer (some ⟨b3, 4, none⟩)) rfl (by kernel_rfl) (fun _ _ _ h => h) rfl hS (fun w hw => by go_simp) ?_
  refine any_take (i := 2) (v := .int .u64 m.index) rfl (by kernel_rfl) (fun _ _ _ h => h) rfl hS (fun w hw => by have := (Mb2.of hw).c4; go_simp) ?_
  refine any_take (i := 3) (v := .pointer (some ⟨b3, 5, none⟩)) rfl (by kernel_rfl) (fun _ _ _ h => h) rfl hS (fun w hw => by go_simp) ?_
  refine any_take (i := 4) (v := .int .u64 m.lterm) rfl (by kernel_rfl) (fun _ _ _ h => h) rfl hS (fun w hw => by have := (Mb2.of hw).c5; go_simp) ?_
  refine any_take (i := 5) (v := .pointer (some ⟨b3, 10, none⟩)) rfl (by kernel_rfl) (fun _ _ _ h => h) rfl hS (fun w hw => by go_simp) ?_
  refine any_take (i := 6) (v := .slice y.ma m.mem.length y.mc) rfl (by kernel_rfl) (fun _ _ _ h => h) rfl hS (fun w hw => by have := (Mb2.of hw).c10; go_simp) ?_
  refine any_take (i := 8) (v := .pointer (some ⟨b3, 11, none⟩)) rfl (by kernel_rfl) (fun _ _ _ h => h) rfl hS (fun w hw => by go_simp) ?_
  refine any_take (i := 9) (v := .string m.snap) rfl (by kernel_rfl) (fun _ _ _ h => h) rfl hS (fun w hw => by have := (Mb2.of hw).c11; go_simp) ?_
  refine any_take (i := 11) (v := .slice none 0 0) rfl (by kernel_rfl) (fun _ _ _ h => h) rfl hS (fun w hw => by go_simp) ?_
  have hld : ∀ w1, w1.heap[b]? = some (.cells (gc s x) 31) → (loadVar 31 ⟨b, 0, none⟩).run Tryz.prog w1 = .ok (.agg (gc s x)) w1 := fun w1 h1 => run_loadVar_row w1 b 31 31 _ (0, 0) _ h1 u31 rfl (zP s x)
  refine any_vc (i := 0) (j := 7) (v := .agg (gc s x)) (by kernel_rfl) rfl rfl rfl rfl (ldP_run (.tmp 2) (by exact rfl) (by go_simp) hA.row) (by go_simp) ((ju HCl) wd hA.bel) ⟨hS, ?_⟩ ?_
  ·refine any_call (i := 7) (by kernel_rfl) rfl rfl (by go_simp) ((ju HCl) wd hA.bel) ?_
   rintro e w5 ⟨aB, cB, rfl, hsB, hb5⟩
   have hS5 := hb5.row hS
   have hA5 := hA.next hb5
   refine ⟨_, rfl, hS5, ?_⟩
   refine any_do (i := 10) (v := .agg (snc m.index m.lterm m.mem aB cB m.snap)) (w' := w5) (by kernel_rfl) rfl rfl (by unfold snc; go_simp) ⟨hS5, ?_⟩
   refine any_call (i := 12) (by kernel_rfl) rfl rfl (by go_simp) ((ju HCu) w5 aB cB none (hA.bel.trans hb5) hsB ((ju HSX).1.bel hb5) (ju HSX).2) ?_
   rintro e w6 ⟨x6, rfl, hg6, hc6, hb6⟩
   have hS6 := hb6.row hS5
   refine ⟨_, rfl, hS6, ?_⟩
   have hA6 := hA5.next hb6
   have hch := ch_row (c' := gc rc x6) hA6.row
   have HA7 := jd (hA6.set (s' := rc) (x' := x6) hch.1 hch.2)
   have HG7 := jd (aI (hg6.box hA6.row hch.2) hc6)
   refine any_skip (i := 13) (w' := w6.setRow b (gc rc x6)) (by kernel_rfl) rfl rfl (st_run (s := rc) (z := x6) (.tmp 2) (.tmp 38) (by exact rfl) (by go_simp) (by go_simp) hA6.row) ⟨hch.2.row hS6 hA6.ne3, ?_⟩
   refine wpAnyH_done (by kernel_rfl) ?_ _
   have y6 := (Bg.of (ju HA7).row).c6
   generalize w6.setRow b (gc rc x6) = w7 at *
   clear hch hA6 hS6 hb6 hg6 hc6
   go_wp2_with (first
    | go_skip
    | (refine gl_commit rfl _ _ rfl b _ rfl rfl (ju HA7).row ?_; intro w8 hr8 hc8; have HG8 := jd (aI ((ju HG7).1.box (ju HA7).row hc8) (ju HG7).2); have HA8 := jd ((ju HA7).set hr8 hc8); clear hr8 hc8 HA7 HG7)
    | (refine bx_ldK 31 (.tmp 2) (by exact rfl) b (by exact rfl) (by exact rfl) _ _ (ju HA8).row u31 (zP _ _) ?_)
    | go_guarded
    | (obtain ⟨s2, x2, h2⟩ := (ju HA8).row2; refine bx_st rfl 31 (.tmp 4) _ rfl b2 _ _ rfl rfl h2 (zP _ _) rfl (gc_one _ _) ?_; intro w9 hr9 hc9; have HR9 := jd (aI hr9 (aI ((ju HG8).1.box h2 hc9) (aI (ju HG8).2 (bel_off (ju HA8).bel hc9 (ju HA8).ge2)))); clear hr9 hc9 h2))
   have q := (ju HR9).2.1
   exact bodyPost_ret (res1 (p := 4) rfl u31 (zP _ _) (ju HR9).1 _ rfl) rfl ⟨_, rfl, ⟨q.m, q.b, q.l, q.v, q.f, q.r⟩, (ju HR9).2.2.1, (ju HR9).2.2.2⟩
  ·rintro e w5 ⟨aB, cB, rfl, hsB, hb5⟩
   have hS5 := hb5.row hS
   have hA5 := hA.next hb5
   refine ⟨_, rfl, hS5, ?_⟩
   refine any_vv (i := 0) (j := 10) (vi := .agg (gc s x)) (vj := .agg (snc m.index m.lterm m.mem aB cB m.snap)) (wi := w5) (wj := w5) (by kernel_rfl) rfl rfl rfl rfl (ldP_run (.tmp 2) (by exact rfl) (by go_simp) hA5.row) (by unfold snc; go_simp) ⟨hS5, ?_⟩ ⟨hS5, ?_⟩
   ·refine any_do (i := 10) (v := .agg (snc m.index m.lterm m.mem aB cB m.snap)) (w' := w5) (by kernel_rfl) rfl rfl (by unfold snc; go_simp) ⟨hS5, ?_⟩
    refine any_call (i := 12) (by kernel_rfl) rfl rfl (by go_simp) ((ju HCu) w5 aB cB none (hA.bel.trans hb5) hsB ((ju HSX).1.bel hb5) (ju HSX).2) ?_
    rintro e w6 ⟨x6, rfl, hg6, hc6, hb6⟩
    have hS6 := hb6.row hS5
    refine ⟨_, rfl, hS6, ?_⟩
    have hA6 := hA5.next hb6
    have hch := ch_row (c' := gc rc x6) hA6.row
    have HA7 := jd (hA6.set (s' := rc) (x' := x6) hch.1 hch.2)
    have HG7 := jd (aI (hg6.box hA6.row hch.2) hc6)
    refine any_skip (i := 13) (w' := w6.setRow b (gc rc x6)) (by kernel_rfl) rfl rfl (st_run (s := rc) (z := x6) (.tmp 2) (.tmp 38) (by exact rfl) (by go_simp) (by go_simp) hA6.row) ⟨hch.2.row hS6 hA6.ne3, ?_⟩
    refine wpAnyH_done (by kernel_rfl) ?_ _
    have y6 := (Bg.of (ju HA7).row).c6
    generalize w6.setRow b (gc rc x6) = w7 at *
    clear hch hA6 hS6 hb6 hg6 hc6
    go_wp2_with (first
     | go_skip
     | (refine gl_commit rfl _ _ rfl b _ rfl rfl (ju HA7).row ?_; intro w8 hr8 hc8; have HG8 := jd (aI ((ju HG7).1.box (ju HA7).row hc8) (ju HG7).2); have HA8 := jd ((ju HA7).set hr8 hc8); clear hr8 hc8 HA7 HG7)
     | (refine bx_ldK 31 (.tmp 2) (by exact rfl) b (by exact rfl) (by exact rfl) _ _ (ju HA8).row u31 (zP _ _) ?_)
     | go_guarded
     | (obtain ⟨s2, x2, h2⟩ := (ju HA8).row2; refine bx_st rfl 31 (.tmp 4) _ rfl b2 _ _ rfl rfl h2 (zP _ _) rfl (gc_one _ _) ?_; intro w9 hr9 hc9; have HR9 := jd (aI hr9 (aI ((ju HG8).1.box h2 hc9) (aI (ju HG8).2 (bel_off (ju HA8).bel hc9 (ju HA8).ge2)))); clear hr9 hc9 h2))
    have q := (ju HR9).2.1
    exact bodyPost_ret (res1 (p := 4) rfl u31 (zP _ _) (ju HR9).1 _ rfl) rfl ⟨_, rfl, ⟨q.m, q.b, q.l, q.v, q.f, q.r⟩, (ju HR9).2.2.1, (ju HR9).2.2.2⟩
   ·refine any_do (i := 0) (v := .agg (gc s x)) (w' := w5) (by kernel_rfl) rfl rfl (ldP_run (.tmp 2) (by exact rfl) (by go_simp) hA5.row) ⟨hS5, ?_⟩
    refine any_call (i := 12) (by kernel_rfl) rfl rfl (by go_simp) ((ju HCu) w5 aB cB none (hA.bel.trans hb5) hsB ((ju HSX).1.bel hb5) (ju HSX).2) ?_
    rintro e w6 ⟨x6, rfl, hg6, hc6, hb6⟩
    have hS6 := hb6.row hS5
    refine ⟨_, rfl, hS6, ?_⟩
    have hA6 := hA5.next hb6
    have hch := ch_row (c' := gc rc x6) hA6.row
    have HA7 := jd (hA6.set (s' := rc) (x' := x6) hch.1 hch.2)
    have HG7 := jd (aI (hg6.box hA6.row hch.2) hc6)
    refine any_skip (i := 13) (w' := w6.setRow b (gc rc x6)) (by kernel_rfl) rfl rfl (st_run (s := rc) (z := x6) (.tmp 2) (.tmp 38) (by exact rfl) (by go_simp) (by go_simp) hA6.row) ⟨hch.2.row hS6 hA6.ne3, ?_⟩
    refine wpAnyH_done (by kernel_rfl) ?_ _
    have y6 := (Bg.of (ju HA7).row).c6
    generalize w6.setRow b (gc rc x6) = w7 at *
    clear hch hA6 hS6 hb6 hg6 hc6
    go_wp2_with (first
     | go_skip
     | (refine gl_commit rfl _ _ rfl b _ rfl rfl (ju HA7).row ?_; intro w8 hr8 hc8; have HG8 := jd (aI ((ju HG7).1.box (ju HA7).row hc8) (ju HG7).2); have HA8 := jd ((ju HA7).set hr8 hc8); clear hr8 hc8 HA7 HG7)
     | (refine bx_ldK 31 (.tmp 2) (by exact rfl) b (by exact rfl) (by exact rfl) _ _ (ju HA8).row u31 (zP _ _) ?_)
     | go_guarded
     | (obtain ⟨s2, x2, h2⟩ := (ju HA8).row2; refine bx_st rfl 31 (.tmp 4) _ rfl b2 _ _ rfl rfl h2 (zP _ _) rfl (gc_one _ _) ?_; intro w9 hr9 hc9; have HR9 := jd (aI hr9 (aI ((ju HG8).1.box h2 hc9) (aI (ju HG8).2 (bel_off (ju HA8).bel hc9 (ju HA8).ge2)))); clear hr9 hc9 h2))
    have q := (ju HR9).2.1
    exact bodyPost_ret (res1 (p := 4) rfl u31 (zP _ _) (ju HR9).1 _ rfl) rfl ⟨_, rfl, ⟨q.m, q.b, q.l, q.v, q.f, q.r⟩, (ju HR9).2.2.1, (ju HR9).2.2.2⟩
end Go.Proofs.YthekbhliokcpcaaGreat
