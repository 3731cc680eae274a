/- The law's step: a message comes and is gone. The law's step: a proposal, or nothing. -/
import Derived.Test.YthekbhliokcpcaaGreatT35
import Derived.Deep.DeepCutAuto
import Derived.Deep.CutBlock
import Derived.Laws.BytesArg
namespace Go.Proofs.YthekbhliokcpcaaGreat
open Go.RowKit Go.Maps Go.Sort
set_option maxRecDepth 100000 in
set_option maxHeartbeats 16000000 in
theorem step_3 {σ : Nat → ByteArray} {W w : World} {n b gP cP bM k km : Nat} {vW vD : Value} {L : List (GP × Px)} {Q : List (GM × GX)} {D : List (GE × GA)} {ld : Int → Int} {M : List (PP × Nat)} {gw : List QM} {dn : List PE} (h : Gk σ W n b gP cP bM k km vW vD L Q D ld M gw dn w) (hn1 : 1 ≤ n) (hn64 : n ≤ 64) (hk : k ≤ 70000) (hσ : σ 0 = ⟨#[]⟩) (A : Act4) (iz : Int) (ma mn : Nat) (hma : bits .and .i64 A.a 65535 = (ma : Int)) (hmn : bits .and .i64 A.n 65535 = (mn : Int)) (hop : A.op = 1) (hkp : A.keep = false) (hQ : Q.length ≠ 0) : Calls Tryz.prog 13 #[.pointer (some ⟨b, 0, none⟩), .agg (ac A), .int .i64 iz] w (StR σ W n b gP cP bM (k + 1)) := by
 have hln := h.len.2
 have hkk := h.kk
 obtain ⟨r, hre⟩ : ∃ r : Nat, r = mn % Q.length := ⟨_, rfl⟩
 have hrl : r < Q.length := by rw [hre]; exact Nat.mod_lt _ (by omega)
 have hrt : (mn : Int).tmod (Q.length : Int) = (r : Int) := by rw [Int.tmod_eq_emod_of_nonneg (by omega)]; omega
 have hrt' : (mn : Int) % (Q.length : Int) = (r : Int) := by omega
 have hr0 : ((Q.length : Int) == 0) = false := beq_eq_false_iff_ne.2 (by omega)
 have hri : (r : Int) < (Q.length : Int) := by omega
 have hql3 := h.ql
 obtain ⟨qa, hqa⟩ : ∃ qa : Nat, qa = ma % n := ⟨_, rfl⟩
 have hqt : (ma : Int).tmod (n : Int) = (qa : Int) := by rw [Int.tmod_eq_emod_of_nonneg (by omega)]; omega
 have hqt' : (ma : Int) % (n : Int) = (qa : Int) := by omega
 have hn0 : ((n : Int) == 0) = false := beq_eq_false_iff_ne.2 (by omega)
 obtain ⟨om, hom⟩ : ∃ om, Q[r] = om := ⟨_, rfl⟩
 have homm : om ∈ Q := by rw [← hom]; exact List.getElem_mem hrl
 obtain ⟨aW, cW, gW, eW, haW, _, hcW⟩ := h.gs.wo.shape
 have haW := haW (by omega)
 subst haW
 subst eW
 have HG := jd h
 have HRL : Hid (r < Q.length) := jd hrl
 have HOM : Hid (Q[r]'hrl = om) := jd hom
 have HEN0 := jd (h.gs.we om homm).1
 have HEC : Hid (om.1.ents.length ≤ om.2.ec) := jd (h.gs.we om homm).2.1
 have HCW := jd hcW
 have hto0 := h.to homm
 obtain ⟨q, hqq⟩ : ∃ q : Nat, q = (om.1.to - 1).toNat := ⟨_, rfl⟩
 have hql : q < L.length := by omega
 have hsub : IntKind.i64.wrap (om.1.to - 1) = (q : Int) := by rw [wrapI (by omega) (by omega)]; omega
 have hqn : (q : Int) < (n : Int) := by omega
 have hqn2 : q < n := by omega
 obtain ⟨p, c, x, hsx, hmq⟩ := rl_inj_at h.hM hql
 have HQL : Hid (q < L.length) := jd hql
 have HSX := jd hsx
 have hid : om.1.to = p.id := by
  obtain ⟨_, _, _, _, h5, _⟩ := h.at hn64 (by omega) hσ hql hsx hmq
  omega
 have hwo := h.wq om homm
 have HTk : Hid (∀ (vX : Value) (QX : List (GM × GX)) (w' : World), Gk σ W n b gP cP bM k km vX vD L QX D ld M gw dn w' → GwT w' om.1 om.2 → Calls Tryz.prog 30 #[.agg (gc (rl n σ p c) x), .agg (mg om.1 om.2)] w' fun e w2 => ∃ p1 b1 x1 aO cO O, e = .returned (.tuple #[.agg (gc (rl n σ p1 b1) x1), .slice aO O.length cO, .int .i64 0]) ∧ Sdk σ n k q ld M gw dn w' p1 b1 x1 (.slice aO O.length cO) O w2) := jd (fun vX QX w' hw' hg => step_sd hw' hn64 (by omega) hσ hql hsx hmq ⟨hg, ju HEC⟩ hwo hid)
 obtain ⟨s, hs⟩ : ∃ s, s = rl n σ p c := ⟨_, rfl⟩
 rw [← hs] at HSX HTk
 clear h hom homm hre hqa hcW hto0 hqq hsx hmq hid hwo hs
 go_enter Tryz.func13, Tryz.ntmps13
 go_wp2_with (first
  | (refine bx_boxH 45 (.tmp 1) (by exact rfl) (by exact rfl) (ac A) (by exact rfl) ?_; intro b4 w0 hr0 hs0 hb0; have HV := jd ((ju HG).next hb0); have HR4 := jd hr0; have HVB := jd hb0; have c1 : w0.cell? ⟨b4, 1, none⟩ = some (.int .i64 A.a) := (cell_of hr0).trans rfl; have y0 := (ju HV).gs.c0; clear hr0 hs0 hb0 HG))
 go_quiet (fail)
 have hb1 := (Bel.refl w0).drewN nq
 replace HV := jd ((ju HV).next hb1)
 replace HR4 := jd (hb1.row (ju HR4))
 replace HVB := jd ((ju HVB).trans hb1)
 clear hb1 c1 y0
 generalize w0.drewN nq = w1 at *
 have c0 : w1.cell? ⟨b4, 0, none⟩ = some (.int .i64 A.op) := (cell_of (ju HR4)).trans rfl
 have c2 : w1.cell? ⟨b4, 2, none⟩ = some (.int .i64 A.n) := (cell_of (ju HR4)).trans rfl
 have c3 : w1.cell? ⟨b4, 3, none⟩ = some (.bool A.keep) := (cell_of (ju HR4)).trans rfl
 have y1 := (ju HV).gs.c1
 have HEN1 := jd ((ju HEN0).bel (ju HVB))
 rw [hop] at c0
 rw [hkp] at c3
 go_upto_region 17 with (first
  | (with_reducible refine elq_ld (.tmp 102) gW r om (ju HV).gs.wo (ju HRL) (ju HOM) ?_ ?_ ?_ ?_; exact rfl; exact rfl; (first | exact rfl | simp [Act.eval]))
  | (with_reducible refine bxq_new ?_ ?_ ?_; exact rfl; exact rfl; intro b11 w3 hr3 hs3 hb3; have HR3 := jd (aI hr3 (aI hs3 hb3)); clear hr3 hs3 hb3)
  | (with_reducible refine bxq_st (.tmp 11) (.tmp 103) b11 om.1 om.2 (ju HR3).1 ?_ ?_ ?_ ?_ ?_; exact rfl; exact rfl; (first | exact rfl | simp [Act.put, Act.eval]); (first | exact rfl | simp [Act.put, Act.eval]); intro w4 hr4 hc4; have hb4 := bel_off (ju HR3).2.2 hc4 (Nat.le_of_eq (ju HR3).2.1); have HV3 := jd ((ju HV).next hb4); have HR43 := jd (hb4.row (ju HR4)); have HR11 := jd hr4; have HEN := jd ((ju HEN1).bel hb4); have c0 : w4.cell? ⟨b4, 0, none⟩ = some (.int .i64 A.op) := (cell_of (ju HR43)).trans rfl; rw [hop] at c0; have c3 : w4.cell? ⟨b4, 3, none⟩ = some (.bool A.keep) := (cell_of (ju HR43)).trans rfl; rw [hkp] at c3; have m2 : w4.cell? ⟨b11, 2, none⟩ = some (.int .i64 om.1.to) := (Mb2.of hr4).c2; have m0 : w4.cell? ⟨b11, 0, none⟩ = some (.int .u8 om.1.kind) := (Mb2.of hr4).c0; clear hr4 hc4 hb4 HR3 HV HR4 HEN1 HEN0))
 go_cut [127] (fun v127 wx => Hid (∃ v2, Gk σ W n b gP cP bM k km v2 vD L (Q.take r ++ Q.drop (r + 1)) D ld M gw dn wx ∧ wx.heap[b11]? = some (.cells (mg om.1 om.2) 87) ∧ wx.heap[b4]? = some (.cells (ac A) 45) ∧ GwT wx om.1 om.2))
 case first =>
  clear c0 c2 c3 y1 m0 m2
  have hGd := (ju HV3).next (Bel.refl w4).drew
  have hRd := ((Bel.refl w4).drew).row (ju HR11)
  have hR4d := ((Bel.refl w4).drew).row (ju HR43)
  have hEd := (ju HEN).bel (Bel.refl w4).drew
  refine wp_region_held_drew (S := fun _ => True) Tryz.follows trivial (fun _ => ?_)
  generalize w4.drew = wd at *
  obtain ⟨v1, w5, a2, l2, c2', w6, hr1, hr2, hb5, hb6, hO6⟩ := rem_q hGd (ju HRL)
  have hGN := hGd.gone hb6 hO6
  have hb66 := hGd.next hb6
  have hcc := (ch_row (c' := grp n gP cP bM (.slice a2 l2 c2') vD) hb66.gs.box).2
  have HFIN : Hid (Gk σ W n b gP cP bM k km (.slice a2 l2 c2') vD L (Q.take r ++ Q.drop (r + 1)) D ld M gw dn (w6.setRow b (grp n gP cP bM (.slice a2 l2 c2') vD)) ∧ (w6.setRow b (grp n gP cP bM (.slice a2 l2 c2') vD)).heap[b11]? = some (.cells (mg om.1 om.2) 87) ∧ (w6.setRow b (grp n gP cP bM (.slice a2 l2 c2') vD)).heap[b4]? = some (.cells (ac A) 45) ∧ GwT (w6.setRow b (grp n gP cP bM (.slice a2 l2 c2') vD)) om.1 om.2) := jd ⟨hGN, hcc.row (hb6.row hRd) (ne_kindG (hb6.row hRd) hb66.gs.box (by decide)), hcc.row (hb6.row hR4d) (ne_kindG (hb6.row hR4d) hb66.gs.box (by decide)), (hEd.bel hb6).kq (v := .slice none 0 0) (Kq.ch hb66.gs.box (by decide) hcc) (fun _ _ _ h => by cases h)⟩
  have HBX := jd hb66.gs.box
  have y1 := hGd.gs.c1
  have y15 := (hGd.next hb5).gs.c1
  have hwr1 : IntKind.i64.wrap ((r : Int) + 1) = (r : Int) + 1 := wrapI (by omega) (by omega)
  have hrc : r ≤ cW := by have := ju HRL; have := ju HCW; omega
  have hr1c : r + 1 ≤ Q.length := ju HRL
  have hqc : Q.length ≤ cW := ju HCW
  clear hGN hb66 hcc hGd hRd hR4d hEd hb6 hO6 hb5
  refine any_take (i := 0) (v := .pointer (some ⟨b, 0, none⟩)) rfl (by kernel_rfl) (fun _ _ _ h => h) rfl trivial (fun w hw => by go_simp) ?_
  refine any_take (i := 1) (v := .pointer (some ⟨b, 0, none⟩)) rfl (by kernel_rfl) (fun _ _ _ h => h) rfl trivial (fun w hw => by go_simp) ?_
  refine any_take (i := 2) (v := .pointer (some ⟨b, 0, none⟩)) rfl (by kernel_rfl) (fun _ _ _ h => h) rfl trivial (fun w hw => by go_simp) ?_
  refine any_take (i := 3) (v := .pointer (some ⟨b, 1, none⟩)) rfl (by kernel_rfl) (fun _ _ _ h => h) rfl trivial (fun w hw => by go_simp) ?_
  refine any_take (i := 5) (v := .int .i64 (r : Int)) rfl (by kernel_rfl) (fun _ _ _ h => h) rfl trivial (fun w hw => by go_simp) ?_
  refine any_take (i := 8) (v := .pointer (some ⟨b, 0, none⟩)) rfl (by kernel_rfl) (fun _ _ _ h => h) rfl trivial (fun w hw => by go_simp) ?_
  refine any_take (i := 9) (v := .pointer (some ⟨b, 0, none⟩)) rfl (by kernel_rfl) (fun _ _ _ h => h) rfl trivial (fun w hw => by go_simp) ?_
  refine any_take (i := 10) (v := .pointer (some ⟨b, 1, none⟩)) rfl (by kernel_rfl) (fun _ _ _ h => h) rfl trivial (fun w hw => by go_simp) ?_
  refine any_take (i := 12) (v := .int .i64 (r : Int)) rfl (by kernel_rfl) (fun _ _ _ h => h) rfl trivial (fun w hw => by go_simp) ?_
  refine any_take (i := 13) (v := .int .i64 ((r + 1 : Nat) : Int)) rfl (by kernel_rfl) (fun _ _ _ h => h) rfl trivial (fun w hw => by go_simp) ?_
  refine any_vv (i := 4) (j := 11) (vi := .slice (some ⟨gW, 0, none⟩) Q.length cW) (wi := wd) (vj := .slice (some ⟨gW, 0, none⟩) Q.length cW) (wj := wd) (by kernel_rfl) (by exact rfl) (by exact rfl) (by exact rfl) (by exact rfl) (by go_simp) (by go_simp) ⟨trivial, ?_⟩ ⟨trivial, ?_⟩
  ·refine any_take (i := 6) (v := .slice (some ⟨gW, 0, none⟩) r cW) rfl (by kernel_rfl) (fun _ _ _ h => h) rfl trivial (fun w hw => sl_lo_run (.tmp 116) (.tmp 117) (by exact rfl) gW Q.length cW r (by go_simp) (by go_simp) hrc) ?_
   refine any_vv (i := 7) (j := 11) (vi := v1) (wi := w5) (vj := .slice (some ⟨gW, 0, none⟩) Q.length cW) (wj := wd) (by kernel_rfl) (by exact rfl) (by exact rfl) (by exact rfl) (by exact rfl) (app_run47 (v1 := .slice none 0 0) (v2 := .slice (some ⟨gW, 0, none⟩) r cW) (.const (.slice none 0 0)) (.tmp 118) (by exact rfl) (by go_simp) (by go_simp) hr1) (by go_simp) ⟨trivial, ?_⟩ ⟨trivial, ?_⟩
   ·refine any_do (i := 11) (v := .slice (some ⟨gW, 0, none⟩) Q.length cW) (w' := w5) (by kernel_rfl) rfl rfl (by go_simp) ⟨trivial, ?_⟩
    refine any_take (i := 14) (v := .slice (if cW = r + 1 then some ⟨gW, 0, none⟩ else some ⟨gW, (r + 1) * 12, none⟩) (Q.length - (r + 1)) (cW - (r + 1))) rfl (by kernel_rfl) (fun _ _ _ h => h) rfl trivial (fun w hw => sl_hi_run (.tmp 123) (.tmp 125) (by exact rfl) gW Q.length cW (r + 1) (by go_simp) (by go_simp) hr1c hqc) ?_
    generalize (if cW = r + 1 then (some ⟨gW, 0, none⟩ : Option Addr) else some ⟨gW, (r + 1) * 12, none⟩) = ahi at *
    refine any_do (i := 15) (v := .slice a2 l2 c2') (w' := w6) (by kernel_rfl) rfl rfl (app_run47 (v1 := v1) (v2 := .slice ahi (Q.length - (r + 1)) (cW - (r + 1))) (.tmp 119) (.tmp 126) (by exact rfl) (by go_simp) (by go_simp) hr2) ⟨trivial, ?_⟩
    refine any_do (i := 16) (v := .pointer (some ⟨b, 0, none⟩)) (w' := w6) (by kernel_rfl) rfl rfl (by go_simp) ⟨trivial, ?_⟩
    refine any_do (i := 17) (v := .pointer (some ⟨b, 1, none⟩)) (w' := w6) (by kernel_rfl) rfl rfl (by go_simp) ⟨trivial, ?_⟩
    refine any_skip (i := 18) (w' := w6.setRow b (grp n gP cP bM (.slice a2 l2 c2') vD)) (by kernel_rfl) rfl rfl (fld_runG 47 (.tmp 129) (.tmp 127) (by exact rfl) b 1 (.slice a2 l2 c2') (by go_simp) (by go_simp) rfl rfl (grp n gP cP bM (.slice (some ⟨gW, 0, none⟩) Q.length cW) vD) 50 (ju HBX) (by kernel_rfl) (by show 1 < 4; decide)) ⟨trivial, ?_⟩
    refine wpAnyH_done (by kernel_rfl) ?_ _
    clear y1 y15 hr1 hr2
    generalize w6.setRow b (grp n gP cP bM (.slice a2 l2 c2') vD) = wz at *
    simp [Act.put]
    go_wp2_with fail
    go_meet
    case rel => exact jd ⟨_, ju HFIN⟩
   ·refine any_take (i := 14) (v := .slice (if cW = r + 1 then some ⟨gW, 0, none⟩ else some ⟨gW, (r + 1) * 12, none⟩) (Q.length - (r + 1)) (cW - (r + 1))) rfl (by kernel_rfl) (fun _ _ _ h => h) rfl trivial (fun w hw => sl_hi_run (.tmp 123) (.tmp 125) (by exact rfl) gW Q.length cW (r + 1) (by go_simp) (by go_simp) hr1c hqc) ?_
    generalize (if cW = r + 1 then (some ⟨gW, 0, none⟩ : Option Addr) else some ⟨gW, (r + 1) * 12, none⟩) = ahi at *
    refine any_do (i := 7) (v := v1) (w' := w5) (by kernel_rfl) rfl rfl (app_run47 (v1 := .slice none 0 0) (v2 := .slice (some ⟨gW, 0, none⟩) r cW) (.const (.slice none 0 0)) (.tmp 118) (by exact rfl) (by go_simp) (by go_simp) hr1) ⟨trivial, ?_⟩
    refine any_do (i := 15) (v := .slice a2 l2 c2') (w' := w6) (by kernel_rfl) rfl rfl (app_run47 (v1 := v1) (v2 := .slice ahi (Q.length - (r + 1)) (cW - (r + 1))) (.tmp 119) (.tmp 126) (by exact rfl) (by go_simp) (by go_simp) hr2) ⟨trivial, ?_⟩
    refine any_do (i := 16) (v := .pointer (some ⟨b, 0, none⟩)) (w' := w6) (by kernel_rfl) rfl rfl (by go_simp) ⟨trivial, ?_⟩
    refine any_do (i := 17) (v := .pointer (some ⟨b, 1, none⟩)) (w' := w6) (by kernel_rfl) rfl rfl (by go_simp) ⟨trivial, ?_⟩
    refine any_skip (i := 18) (w' := w6.setRow b (grp n gP cP bM (.slice a2 l2 c2') vD)) (by kernel_rfl) rfl rfl (fld_runG 47 (.tmp 129) (.tmp 127) (by exact rfl) b 1 (.slice a2 l2 c2') (by go_simp) (by go_simp) rfl rfl (grp n gP cP bM (.slice (some ⟨gW, 0, none⟩) Q.length cW) vD) 50 (ju HBX) (by kernel_rfl) (by show 1 < 4; decide)) ⟨trivial, ?_⟩
    refine wpAnyH_done (by kernel_rfl) ?_ _
    clear y1 y15 hr1 hr2
    generalize w6.setRow b (grp n gP cP bM (.slice a2 l2 c2') vD) = wz at *
    simp [Act.put]
    go_wp2_with fail
    go_meet
    case rel => exact jd ⟨_, ju HFIN⟩
  ·refine any_take (i := 14) (v := .slice (if cW = r + 1 then some ⟨gW, 0, none⟩ else some ⟨gW, (r + 1) * 12, none⟩) (Q.length - (r + 1)) (cW - (r + 1))) rfl (by kernel_rfl) (fun _ _ _ h => h) rfl trivial (fun w hw => sl_hi_run (.tmp 123) (.tmp 125) (by exact rfl) gW Q.length cW (r + 1) (by go_simp) (by go_simp) hr1c hqc) ?_
   generalize (if cW = r + 1 then (some ⟨gW, 0, none⟩ : Option Addr) else some ⟨gW, (r + 1) * 12, none⟩) = ahi at *
   refine any_do (i := 4) (v := .slice (some ⟨gW, 0, none⟩) Q.length cW) (w' := wd) (by kernel_rfl) rfl rfl (by go_simp) ⟨trivial, ?_⟩
   refine any_take (i := 6) (v := .slice (some ⟨gW, 0, none⟩) r cW) rfl (by kernel_rfl) (fun _ _ _ h => h) rfl trivial (fun w hw => sl_lo_run (.tmp 116) (.tmp 117) (by exact rfl) gW Q.length cW r (by go_simp) (by go_simp) hrc) ?_
   refine any_do (i := 7) (v := v1) (w' := w5) (by kernel_rfl) rfl rfl (app_run47 (v1 := .slice none 0 0) (v2 := .slice (some ⟨gW, 0, none⟩) r cW) (.const (.slice none 0 0)) (.tmp 118) (by exact rfl) (by go_simp) (by go_simp) hr1) ⟨trivial, ?_⟩
   refine any_do (i := 15) (v := .slice a2 l2 c2') (w' := w6) (by kernel_rfl) rfl rfl (app_run47 (v1 := v1) (v2 := .slice ahi (Q.length - (r + 1)) (cW - (r + 1))) (.tmp 119) (.tmp 126) (by exact rfl) (by go_simp) (by go_simp) hr2) ⟨trivial, ?_⟩
   refine any_do (i := 16) (v := .pointer (some ⟨b, 0, none⟩)) (w' := w6) (by kernel_rfl) rfl rfl (by go_simp) ⟨trivial, ?_⟩
   refine any_do (i := 17) (v := .pointer (some ⟨b, 1, none⟩)) (w' := w6) (by kernel_rfl) rfl rfl (by go_simp) ⟨trivial, ?_⟩
   refine any_skip (i := 18) (w' := w6.setRow b (grp n gP cP bM (.slice a2 l2 c2') vD)) (by kernel_rfl) rfl rfl (fld_runG 47 (.tmp 129) (.tmp 127) (by exact rfl) b 1 (.slice a2 l2 c2') (by go_simp) (by go_simp) rfl rfl (grp n gP cP bM (.slice (some ⟨gW, 0, none⟩) Q.length cW) vD) 50 (ju HBX) (by kernel_rfl) (by show 1 < 4; decide)) ⟨trivial, ?_⟩
   refine wpAnyH_done (by kernel_rfl) ?_ _
   clear y1 y15 hr1 hr2
   generalize w6.setRow b (grp n gP cP bM (.slice a2 l2 c2') vD) = wz at *
   simp [Act.put]
   go_wp2_with fail
   go_meet
   case rel => exact jd ⟨_, ju HFIN⟩
 case rest =>
  obtain ⟨v2, hK2, hr11, hr44, hen2⟩ := ju hcut
  have HK2 := jd hK2
  have HR11 := jd hr11
  have HEN := jd hen2
  have c0 : wc.cell? ⟨b4, 0, none⟩ = some (.int .i64 A.op) := (cell_of hr44).trans rfl
  rw [hop] at c0
  have c3 : wc.cell? ⟨b4, 3, none⟩ = some (.bool A.keep) := (cell_of hr44).trans rfl
  have m2 : wc.cell? ⟨b11, 2, none⟩ = some (.int .i64 om.1.to) := (Mb2.of hr11).c2
  have m0 : wc.cell? ⟨b11, 0, none⟩ = some (.int .u8 om.1.kind) := (Mb2.of hr11).c0
  clear hK2 hr11 hr44 hen2 hcut
  generalize Q.take r ++ Q.drop (r + 1) = Q2 at *
  go_upto_region 20 with fail
  go_wp2_with fail
  clear m0 m2 c0 c3
  have hGd := (ju HK2).next (Bel.refl wc).drew
  have hRd := ((Bel.refl wc).drew).row (ju HR11)
  have hEd := (ju HEN).bel (Bel.refl wc).drew
  refine wp_region_held_drew (S := fun w => w.heap[b]? = some (.cells (grp n gP cP bM v2 vD) 50) ∧ w.heap[b11]? = some (.cells (mg om.1 om.2) 87)) Tryz.follows ⟨hGd.gs.box, hRd⟩ (fun hS => ?_)
  generalize wc.drew = wd at *
  refine any_take (i := 0) (v := .pointer (some ⟨b, 0, none⟩)) rfl (by kernel_rfl) (fun _ _ _ h => h) rfl hS (fun w hw => by go_simp) ?_
  refine any_take (i := 1) (v := .pointer (some ⟨b, 0, none⟩)) rfl (by kernel_rfl) (fun _ _ _ h => h) rfl hS (fun w hw => by go_simp) ?_
  refine any_take (i := 2) (v := .pointer (some ⟨b, 0, none⟩)) rfl (by kernel_rfl) (fun _ _ _ h => h) rfl hS (fun w hw => by go_simp) ?_
  refine any_take (i := 3) (v := .slice (some ⟨gP, 0, none⟩) n cP) rfl (by kernel_rfl) (fun _ _ _ h => h) rfl hS (fun w hw => by have := (cell_of hw.1 : w.cell? ⟨b, 0, none⟩ = _); change w.cell? ⟨b, 0, none⟩ = some (.slice (some ⟨gP, 0, none⟩) n cP) at this; go_simp) ?_
  refine any_take (i := 4) (v := .int .i64 (q : Int)) rfl (by kernel_rfl) (fun _ _ _ h => h) rfl hS (fun w hw => by go_simp) ?_
  refine any_take (i := 5) (v := .pointer (some ⟨b, 0, none⟩)) rfl (by kernel_rfl) (fun _ _ _ h => h) rfl hS (fun w hw => by go_simp) ?_
  refine any_take (i := 6) (v := .pointer (some ⟨b, 0, none⟩)) rfl (by kernel_rfl) (fun _ _ _ h => h) rfl hS (fun w hw => by go_simp) ?_
  refine any_take (i := 7) (v := .pointer (some ⟨b, 0, none⟩)) rfl (by kernel_rfl) (fun _ _ _ h => h) rfl hS (fun w hw => by go_simp) ?_
  refine any_take (i := 8) (v := .slice (some ⟨gP, 0, none⟩) n cP) rfl (by kernel_rfl) (fun _ _ _ h => h) rfl hS (fun w hw => by have := (cell_of hw.1 : w.cell? ⟨b, 0, none⟩ = _); change w.cell? ⟨b, 0, none⟩ = some (.slice (some ⟨gP, 0, none⟩) n cP) at this; go_simp) ?_
  refine any_take (i := 9) (v := .int .i64 (q : Int)) rfl (by kernel_rfl) (fun _ _ _ h => h) rfl hS (fun w hw => by go_simp) ?_
  refine any_take (i := 10) (v := .pointer (some ⟨gP, q * 18, none⟩)) rfl (by kernel_rfl) (fun _ _ _ h => h) rfl hS (fun w hw => by go_simp) ?_
  refine any_take (i := 12) (v := .agg (mg om.1 om.2)) rfl (by kernel_rfl) (fun _ _ _ h => h) rfl hS (fun w hw => ldM_run (.tmp 11) (by exact rfl) (by go_simp) hw.2) ?_
  refine any_do (i := 11) (v := .agg (gc s x)) (w' := wd) (by kernel_rfl) rfl rfl (el_ld_run (E := EPg) (.tmp 147) (by exact rfl) gP q (by show _ = Value.pointer (some ⟨gP, q * 18, none⟩); go_simp) hGd.gs.row (ju HQL) Tryz.underlying31 (gc s x) (by rw [ju HSX]; rfl)) ⟨hS, ?_⟩
  refine any_call (i := 13) (by kernel_rfl) rfl rfl (by go_simp) ((ju HTk) _ _ wd hGd hEd) ?_
  rintro e w5 ⟨p1, b1, x1, aO, cO, O, rfl, hsd⟩
  have hG5 := hGd.next hsd.bel
  have hS5 : w5.heap[b]? = some (.cells (grp n gP cP bM v2 vD) 50) ∧ w5.heap[b11]? = some (.cells (mg om.1 om.2) 87) := ⟨hG5.gs.box, hsd.bel.row hS.2⟩
  refine ⟨_, rfl, hS5, ?_⟩
  refine any_take (i := 14) (v := .tuple #[.agg (gc (rl n σ p1 b1) x1), .slice aO O.length cO, .int .i64 0]) rfl (by kernel_rfl) (fun _ _ _ h => h) rfl hS5 (fun w hw => by go_simp) ?_
  refine any_take (i := 15) (v := .agg (gc (rl n σ p1 b1) x1)) rfl (by kernel_rfl) (fun _ _ _ h => h) rfl hS5 (fun w hw => by go_simp) ?_
  refine any_take (i := 16) (v := .slice aO O.length cO) rfl (by kernel_rfl) (fun _ _ _ h => h) rfl hS5 (fun w hw => by go_simp) ?_
  refine any_take (i := 17) (v := .int .i64 0) rfl (by kernel_rfl) (fun _ _ _ h => h) rfl hS5 (fun w hw => by go_simp) ?_
  refine any_take (i := 18) (v := .pointer (some ⟨gP, q * 18, none⟩)) rfl (by kernel_rfl) (fun _ _ _ h => h) rfl hS5 (fun w hw => by go_simp) ?_
  have hrow5 := hG5.gs.row
  obtain ⟨cur5, hcur5⟩ := hrow5.block (k := gP) rfl
  have hcur5 : w5.heap[gP]? = some (.cells cur5 31) := hcur5
  obtain ⟨gw', hGM⟩ := hGd.put (ju HQL) hsd (hG5.gs.row.put q (ju HQL) (rl n σ p1 b1, x1)) (ch_setCells _ _ _ _)
  have hS6 : (w5.setCells gP (q * EPg.k) (EPg.enc (rl n σ p1 b1, x1))).heap[b]? = some (.cells (grp n gP cP bM v2 vD) 50) ∧ (w5.setCells gP (q * EPg.k) (EPg.enc (rl n σ p1 b1, x1))).heap[b11]? = some (.cells (mg om.1 om.2) 87) := ⟨hGM.gs.box, (ch_setCells gP (EPg.enc (rl n σ p1 b1, x1)) (q * EPg.k) w5).row hS5.2 (ne_kindG hS5.2 hcur5 (by decide))⟩
  refine any_skip (i := 19) (w' := w5.setCells gP (q * EPg.k) (EPg.enc (rl n σ p1 b1, x1))) (by kernel_rfl) rfl rfl (el_st_run (E := EPg) (.tmp 154) (.tmp 151) (by exact rfl) gP q (by show _ = Value.pointer (some ⟨gP, q * 18, none⟩); go_simp) (gc (rl n σ p1 b1) x1) (by go_simp) (rl n σ p1 b1, x1) rfl hG5.gs.row (ju HQL)) ⟨hS6, ?_⟩
  generalize w5.setCells gP (q * EPg.k) (EPg.enc (rl n σ p1 b1, x1)) = w6 at *
  refine any_do (i := 20) (v := .slice aO O.length cO) (w' := w6) (by kernel_rfl) rfl rfl (by go_simp) ⟨hS6, ?_⟩
  refine any_do (i := 21) (v := .int .i64 0) (w' := w6) (by kernel_rfl) rfl rfl (by go_simp) ⟨hS6, ?_⟩
  refine wpAnyH_done (by kernel_rfl) ?_ _
  clear hsd hS hS5 hS6 hGd hG5 hRd hEd hrow5 hcur5
  have HM := jd hGM
  clear hGM
  have HQ2 : Hid (q < (L.set q (rl n σ p1 b1, x1)).length) := jd (by simpa using ju HQL)
  have HWL : Hid (Q2.length ≤ 300) := jd (ju HM).ql
  have HBS := jd (ju HM).gs.bel.size
  obtain ⟨aW2, cW2, gW2, eW2, _, _, _⟩ := (ju HM).gs.wo.shape
  subst eW2
  have y1 := (ju HM).gs.c1
  simp [Act.put]
  by_cases hl : Q2.length < 150
  ·have hli : (Q2.length : Int) < 150 := by omega
   go_wp2_with (first
    | (at_builtin; with_reducible refine elq_app (ju HM).gs.wo (ju HBS) (ju HM).oo (ju HM).ol (ju HWL) (.tmp 252) (.tmp 253) ?_ ?_ ?_ ?_ ?_; exact rfl; exact rfl; (first | exact rfl | simp [Act.eval]); (first | exact rfl | simp [Act.eval]); intro a8 c8 w8 ho8 hg8; have HJ := jd (aI ho8 hg8); have HBX := jd (row_grown (ju HM).gs.box (ju HM).gs.wo hg8 (by decide)); have y1 : w8.cell? ⟨b, 1, none⟩ = some (.slice aW2 Q2.length cW2) := (cell_of (ju HBX)).trans rfl; have f1 : w8.frozen? ⟨b, 1, none⟩ = false := free_row (ju HBX); clear ho8 hg8)
    | (go_at_call 33; have HK := jd ((ju HM).join hl (ju HJ).1 (ju HJ).2 (w2 := w8.setCell ⟨b, 1, none⟩ (.slice a8 (Q2.length + O.length) c8)) (row_set (ju HBX)) (Ch.set (ad := ⟨b, 1, none⟩) (Ch.refl (fun j => j = b) w8) (Or.inl rfl) _)); refine ((ju HK).held (by omega) (by omega) hn64 (by omega) (ju HQ2)).mono ?_; rintro e wz ⟨rfl, hgz⟩; have HF := jd hgz; clear hgz))
   go_ret
   obtain ⟨vD', D', ld', km', dn', hf⟩ := ju HF
   exact ⟨rfl, _, _, _, _, _, _, _, _, _, _, hf⟩
  ·have hli : ¬ ((Q2.length : Int) < 150) := by omega
   have HK := jd (ju HM).skip
   go_wp2_with (first
    | (go_at_call 33; refine ((ju HK).held (by omega) (by omega) hn64 (by omega) (ju HQ2)).mono ?_; rintro e wz ⟨rfl, hgz⟩; have HF := jd hgz; clear hgz))
   go_ret
   obtain ⟨vD', D', ld', km', dn', hf⟩ := ju HF
   exact ⟨rfl, _, _, _, _, _, _, _, _, _, _, hf⟩
section
variable {o : Oper} {a : Act} {w : World}
theorem two_run (X : Operand) (ho : o.op = .convert 54 9 X) {g : Nat} {x y : Int} (hx : a.eval X = .slice (some ⟨g, 0, none⟩) 2 2) (hr : w.heap[g]? = some (.cells #[.int .u8 x, .int .u8 y] 5)) : (execOp a.eval o).run Tryz.prog w = .ok (.value (.string (strOfNums [x, y]))) w := by
 have c0 : w.cell? ⟨g, 0, none⟩ = some (.int .u8 x) := (cell_of hr).trans rfl
 have c1 : w.cell? ⟨g, 1, none⟩ = some (.int .u8 y) := (cell_of hr).trans rfl
 have := run_convert_bytes_arg (P := Tryz.prog) w 54 5 Tryz.underlying54 Tryz.underlying5 g 0 2 2 [x, y] rfl (fun i hi => by
  rcases i with _ | _ | i
  ·exact c0
  ·exact c1
  ·omega) 9 Tryz.underlying9
 unfold execOp
 simp only [ho, hx, Sem.run_bind, this, Result.andThen_ok, Sem.run_pure]
theorem one_byte (X : Operand) (ho : o.op = .convert 54 9 X) {g : Nat} {x : Int} (hx : a.eval X = .slice (some ⟨g, 0, none⟩) 1 1) (hr : w.heap[g]? = some (.cells #[.int .u8 x] 5)) : (execOp a.eval o).run Tryz.prog w = .ok (.value (.string (strOfNums [x]))) w := by
 have c0 : w.cell? ⟨g, 0, none⟩ = some (.int .u8 x) := (cell_of hr).trans rfl
 have := run_convert_bytes_arg (P := Tryz.prog) w 54 5 Tryz.underlying54 Tryz.underlying5 g 0 1 1 [x] rfl (fun i hi => by
  rcases i with _ | i
  ·exact c0
  ·omega) 9 Tryz.underlying9
 unfold execOp
 simp only [ho, hx, Sem.run_bind, this, Result.andThen_ok, Sem.run_pure]
end
set_option maxRecDepth 100000 in
set_option maxHeartbeats 16000000 in
theorem step_d {σ : Nat → ByteArray} {W w : World} {n b gP cP bM k km : Nat} {vW vD : Value} {L : List (GP × Px)} {Q : List (GM × GX)} {D : List (GE × GA)} {ld : Int → Int} {M : List (PP × Nat)} {gw : List QM} {dn : List PE} (h : Gk σ W n b gP cP bM k km vW vD L Q D ld M gw dn w) (hn1 : 1 ≤ n) (hn64 : n ≤ 64) (hk : k ≤ 70000) (hσ : σ 0 = ⟨#[]⟩) (A : Act4) (iz : Int) (ma mn : Nat) (hma : bits .and .i64 A.a 65535 = (ma : Int)) (hmn : bits .and .i64 A.n 65535 = (mn : Int)) (h0 : A.op ≠ 0) (h1 : A.op ≠ 1) (h2 : A.op ≠ 2) (h4 : A.op ≠ 4) (h8 : A.op ≠ 8) : Calls Tryz.prog 13 #[.pointer (some ⟨b, 0, none⟩), .agg (ac A), .int .i64 iz] w (StR σ W n b gP cP bM (k + 1)) := by
 have hln := h.len.2
 obtain ⟨q, hqe⟩ : ∃ q : Nat, q = ma % n := ⟨_, rfl⟩
 have hqn : q < n := by rw [hqe]; exact Nat.mod_lt _ (by omega)
 have hqt : (ma : Int).tmod (n : Int) = (q : Int) := by rw [Int.tmod_eq_emod_of_nonneg (by omega)]; omega
 have hqt' : (ma : Int) % (n : Int) = (q : Int) := by omega
 have hn0 : ((n : Int) == 0) = false := beq_eq_false_iff_ne.2 (by omega)
 have hql : q < L.length := by omega
 have hkk := h.kk
 obtain ⟨p, c, x, hsx, hmq⟩ := rl_inj_at h.hM hql
 have HG := jd h
 have HQL : Hid (q < L.length) := jd hql
 have HSX := jd hsx
 have e0 : (A.op == 0) = false := by simp [h0]
 have e1 : (A.op == 1) = false := by simp [h1]
 have e2 : (A.op == 2) = false := by simp [h2]
 have e4 : (A.op == 4) = false := by simp [h4]
 have e8 : (A.op == 8) = false := by simp [h8]
 obtain ⟨ub1, hub1⟩ : ∃ u, u = IntKind.u8.wrap iz := ⟨_, rfl⟩
 obtain ⟨ub2, hub2⟩ : ∃ u, u = IntKind.u8.wrap (mn : Int) := ⟨_, rfl⟩
 have HTk : Hid (p.role = 2 → ∀ w', Gk σ W n b gP cP bM k km vW vD L Q D ld M gw dn w' → Calls Tryz.prog 32 #[.agg (gc (rl n σ p c) x), .string (strOfNums [ub1, ub2])] w' fun e w2 => ∃ p1 b1 x1 v, e = .returned (.tuple #[.agg (gc (rl n σ p1 b1) x1), v, .int .i64 0]) ∧ Sdk σ n k q ld M gw dn w' p1 b1 x1 (.slice none 0 0) [] w2) := jd (fun hr w' hw' => prop_sd hw' hn64 (by omega) hσ hql hsx hmq _ (by show (2 : Nat) ≤ 1048576; decide) hr)
 have hrs : (rl n σ p c).role = p.role := rfl
 obtain ⟨s, hs⟩ : ∃ s, s = rl n σ p c := ⟨_, rfl⟩
 rw [← hs] at HSX HTk hrs
 clear h hsx hmq hqe hs h0 h1 h2 h4 h8
 go_enter Tryz.func13, Tryz.ntmps13
 go_wp2_with (first
  | (refine bx_boxH 45 (.tmp 1) (by exact rfl) (by exact rfl) (ac A) (by exact rfl) ?_; intro b4 w0 hr0 hs0 hb0; have HV := jd ((ju HG).next hb0); have HR4 := jd hr0; have c1 : w0.cell? ⟨b4, 1, none⟩ = some (.int .i64 A.a) := (cell_of hr0).trans rfl; have y0 := (ju HV).gs.c0; clear hr0 hs0 hb0 HG))
 go_quiet (fail)
 have hb1 := (Bel.refl w0).drewN nq
 replace HV := jd ((ju HV).next hb1)
 replace HR4 := jd (hb1.row (ju HR4))
 clear hb1 c1 y0
 generalize w0.drewN nq = w1 at *
 have c0 : w1.cell? ⟨b4, 0, none⟩ = some (.int .i64 A.op) := (cell_of (ju HR4)).trans rfl
 have c2 : w1.cell? ⟨b4, 2, none⟩ = some (.int .i64 A.n) := (cell_of (ju HR4)).trans rfl
 go_upto_block 0 with fail
 go_cut [7, 9, 10] (fun v7 v9 v10 wx => ∃ (q1 : Nat) (aO : Option Addr) (cO : Nat) (O : List (GM × GX)), v7 = .int .i64 (q1 : Int) ∧ v9 = .slice aO O.length cO ∧ v10 = .int .i64 0 ∧ Hid (∃ vW1 Q1 L1 M1 gw1, L1.length = n ∧ q1 < n ∧ Gmk σ W n b gP cP bM (k + 1) km q1 vW1 vD L1 Q1 D ld M1 gw1 dn (.slice aO O.length cO) O wx))
 case first =>
  have y0 := (ju HV).gs.c0
  have y4 := (ju HV).gs.at (ju HQL) (ju HSX) 4 (.int .u8 s.role) rfl
  by_cases hr : s.role = 2
  ·have er : (s.role == 2) = true := by simp [hr]
   replace HTk := jd ((ju HTk) (by rw [← hrs]; exact hr))
   clear hr hrs
   go_wp2_with fail
   clear c0 c2 y0 y4
   have hGd := (ju HV).next (Bel.refl w1).drew
   refine wp_region_held_drew (S := fun w => w.heap[b]? = some (.cells (grp n gP cP bM vW vD) 50)) Tryz.follows hGd.gs.box (fun hS => ?_)
   generalize w1.drew = wd at *
   refine any_take (i := 0) (v := .pointer (some ⟨b, 0, none⟩)) rfl (by kernel_rfl) (fun _ _ _ h => h) rfl hS (fun w hw => by go_simp) ?_
   refine any_take (i := 1) (v := .pointer (some ⟨b, 0, none⟩)) rfl (by kernel_rfl) (fun _ _ _ h => h) rfl hS (fun w hw => by go_simp) ?_
   refine any_take (i := 2) (v := .pointer (some ⟨b, 0, none⟩)) rfl (by kernel_rfl) (fun _ _ _ h => h) rfl hS (fun w hw => by go_simp) ?_
   refine any_take (i := 3) (v := .slice (some ⟨gP, 0, none⟩) n cP) rfl (by kernel_rfl) (fun _ _ _ h => h) rfl hS (fun w hw => by have := (cell_of hw : w.cell? ⟨b, 0, none⟩ = _); change w.cell? ⟨b, 0, none⟩ = some (.slice (some ⟨gP, 0, none⟩) n cP) at this; go_simp) ?_
   refine any_take (i := 4) (v := .int .i64 (q : Int)) rfl (by kernel_rfl) (fun _ _ _ h => h) rfl hS (fun w hw => by go_simp) ?_
   refine any_take (i := 5) (v := .pointer (some ⟨b, 0, none⟩)) rfl (by kernel_rfl) (fun _ _ _ h => h) rfl hS (fun w hw => by go_simp) ?_
   refine any_take (i := 6) (v := .pointer (some ⟨b, 0, none⟩)) rfl (by kernel_rfl) (fun _ _ _ h => h) rfl hS (fun w hw => by go_simp) ?_
   refine any_take (i := 7) (v := .pointer (some ⟨b, 0, none⟩)) rfl (by kernel_rfl) (fun _ _ _ h => h) rfl hS (fun w hw => by go_simp) ?_
   refine any_take (i := 8) (v := .slice (some ⟨gP, 0, none⟩) n cP) rfl (by kernel_rfl) (fun _ _ _ h => h) rfl hS (fun w hw => by have := (cell_of hw : w.cell? ⟨b, 0, none⟩ = _); change w.cell? ⟨b, 0, none⟩ = some (.slice (some ⟨gP, 0, none⟩) n cP) at this; go_simp) ?_
   refine any_take (i := 9) (v := .int .i64 (q : Int)) rfl (by kernel_rfl) (fun _ _ _ h => h) rfl hS (fun w hw => by go_simp) ?_
   refine any_take (i := 10) (v := .pointer (some ⟨gP, q * 18, none⟩)) rfl (by kernel_rfl) (fun _ _ _ h => h) rfl hS (fun w hw => by go_simp) ?_
   refine any_take (i := 12) (v := .int .i64 iz) rfl (by kernel_rfl) (fun _ _ _ h => h) rfl hS (fun w hw => by go_simp) ?_
   refine any_take (i := 13) (v := .int .u8 ub1) rfl (by kernel_rfl) (fun _ _ _ h => h) rfl hS (fun w hw => by rw [hub1]; go_simp) ?_
   refine any_take (i := 14) (v := .int .i64 (mn : Int)) rfl (by kernel_rfl) (fun _ _ _ h => h) rfl hS (fun w hw => by go_simp) ?_
   refine any_take (i := 15) (v := .int .u8 ub2) rfl (by kernel_rfl) (fun _ _ _ h => h) rfl hS (fun w hw => by rw [hub2]; go_simp) ?_
   have hA := (Bel.refl wd).alloc (.cells #[.int .u8 ub1, .int .u8 ub2] 5)
   have hGA := hGd.next hA
   have hnw := at_new wd (.cells #[.int .u8 ub1, .int .u8 ub2] 5)
   have hSA : (wd.alloc (.cells #[.int .u8 ub1, .int .u8 ub2] 5)).heap[b]? = some (.cells (grp n gP cP bM vW vD) 50) := hGA.gs.box
   refine any_vv (i := 11) (j := 16) (vi := .agg (gc s x)) (wi := wd) (vj := .slice (some ⟨wd.heap.size, 0, none⟩) 2 2) (wj := wd.alloc (.cells #[.int .u8 ub1, .int .u8 ub2] 5)) (by kernel_rfl) (by exact rfl) (by exact rfl) (by exact rfl) (by exact rfl) (el_ld_run (E := EPg) (.tmp 47) (by exact rfl) gP q (by show _ = Value.pointer (some ⟨gP, q * 18, none⟩); go_simp) hGd.gs.row (ju HQL) Tryz.underlying31 (gc s x) (by rw [ju HSX]; rfl)) (by go_simp) ⟨hS, ?_⟩ ⟨hSA, ?_⟩
   ·refine any_do (i := 16) (v := .slice (some ⟨wd.heap.size, 0, none⟩) 2 2) (w' := wd.alloc (.cells #[.int .u8 ub1, .int .u8 ub2] 5)) (by kernel_rfl) rfl rfl (by go_simp) ⟨hSA, ?_⟩
    refine any_do (i := 17) (v := .string (strOfNums [ub1, ub2])) (w' := wd.alloc (.cells #[.int .u8 ub1, .int .u8 ub2] 5)) (by kernel_rfl) rfl rfl (two_run (.tmp 53) (by exact rfl) (by go_simp) hnw) ⟨hSA, ?_⟩
    refine any_call (i := 18) (by kernel_rfl) rfl rfl (by go_simp) ((ju HTk) _ hGA) ?_
    rintro e w5 ⟨p1, b1, x1, v5, rfl, hsd⟩
    have hG5 := hGA.next hsd.bel
    have hS5 : w5.heap[b]? = some (.cells (grp n gP cP bM vW vD) 50) := hG5.gs.box
    refine ⟨_, rfl, hS5, ?_⟩
    refine any_take (i := 19) (v := .tuple #[.agg (gc (rl n σ p1 b1) x1), v5, .int .i64 0]) rfl (by kernel_rfl) (fun _ _ _ h => h) rfl hS5 (fun w hw => by go_simp) ?_
    refine any_take (i := 20) (v := .agg (gc (rl n σ p1 b1) x1)) rfl (by kernel_rfl) (fun _ _ _ h => h) rfl hS5 (fun w hw => by go_simp) ?_
    refine any_take (i := 21) (v := v5) rfl (by kernel_rfl) (fun _ _ _ h => h) rfl hS5 (fun w hw => by go_simp) ?_
    refine any_take (i := 22) (v := .int .i64 0) rfl (by kernel_rfl) (fun _ _ _ h => h) rfl hS5 (fun w hw => by go_simp) ?_
    refine any_take (i := 23) (v := .pointer (some ⟨gP, q * 18, none⟩)) rfl (by kernel_rfl) (fun _ _ _ h => h) rfl hS5 (fun w hw => by go_simp) ?_
    obtain ⟨gw', hGM⟩ := hGA.put (ju HQL) hsd (hG5.gs.row.put q (ju HQL) (rl n σ p1 b1, x1)) (ch_setCells _ _ _ _)
    refine any_skip (i := 24) (w' := w5.setCells gP (q * EPg.k) (EPg.enc (rl n σ p1 b1, x1))) (by kernel_rfl) rfl rfl (el_st_run (E := EPg) (.tmp 59) (.tmp 56) (by exact rfl) gP q (by show _ = Value.pointer (some ⟨gP, q * 18, none⟩); go_simp) (gc (rl n σ p1 b1) x1) (by go_simp) (rl n σ p1 b1, x1) rfl hG5.gs.row (ju HQL)) ⟨hGM.gs.box, ?_⟩
    have hS6 : (w5.setCells gP (q * EPg.k) (EPg.enc (rl n σ p1 b1, x1))).heap[b]? = some (.cells (grp n gP cP bM vW vD) 50) := hGM.gs.box
    generalize w5.setCells gP (q * EPg.k) (EPg.enc (rl n σ p1 b1, x1)) = w6 at *
    refine any_do (i := 25) (v := .int .i64 0) (w' := w6) (by kernel_rfl) rfl rfl (by go_simp) ⟨hS6, ?_⟩
    refine wpAnyH_done (by kernel_rfl) ?_ _
    have HM := jd hGM
    clear hGM hsd hS hS5 hS6 hGd hG5 hGA hA hnw hSA
    simp [Act.put]
    go_wp2_with fail
    go_meet
    case rel => exact ⟨q, none, 0, [], rfl, rfl, rfl, jd ⟨vW, Q, _, _, gw', by simpa using hln, hqn, ju HM⟩⟩
   ·refine any_vv (i := 11) (j := 17) (vi := .agg (gc s x)) (wi := wd.alloc (.cells #[.int .u8 ub1, .int .u8 ub2] 5)) (vj := .string (strOfNums [ub1, ub2])) (wj := wd.alloc (.cells #[.int .u8 ub1, .int .u8 ub2] 5)) (by kernel_rfl) (by exact rfl) (by exact rfl) (by exact rfl) (by exact rfl) (el_ld_run (E := EPg) (.tmp 47) (by exact rfl) gP q (by show _ = Value.pointer (some ⟨gP, q * 18, none⟩); go_simp) hGA.gs.row (ju HQL) Tryz.underlying31 (gc s x) (by rw [ju HSX]; rfl)) (two_run (.tmp 53) (by exact rfl) (by go_simp) hnw) ⟨hSA, ?_⟩ ⟨hSA, ?_⟩
    ·refine any_do (i := 17) (v := .string (strOfNums [ub1, ub2])) (w' := wd.alloc (.cells #[.int .u8 ub1, .int .u8 ub2] 5)) (by kernel_rfl) rfl rfl (two_run (.tmp 53) (by exact rfl) (by go_simp) hnw) ⟨hSA, ?_⟩
     refine any_call (i := 18) (by kernel_rfl) rfl rfl (by go_simp) ((ju HTk) _ hGA) ?_
     rintro e w5 ⟨p1, b1, x1, v5, rfl, hsd⟩
     have hG5 := hGA.next hsd.bel
     have hS5 : w5.heap[b]? = some (.cells (grp n gP cP bM vW vD) 50) := hG5.gs.box
     refine ⟨_, rfl, hS5, ?_⟩
     refine any_take (i := 19) (v := .tuple #[.agg (gc (rl n σ p1 b1) x1), v5, .int .i64 0]) rfl (by kernel_rfl) (fun _ _ _ h => h) rfl hS5 (fun w hw => by go_simp) ?_
     refine any_take (i := 20) (v := .agg (gc (rl n σ p1 b1) x1)) rfl (by kernel_rfl) (fun _ _ _ h => h) rfl hS5 (fun w hw => by go_simp) ?_
     refine any_take (i := 21) (v := v5) rfl (by kernel_rfl) (fun _ _ _ h => h) rfl hS5 (fun w hw => by go_simp) ?_
     refine any_take (i := 22) (v := .int .i64 0) rfl (by kernel_rfl) (fun _ _ _ h => h) rfl hS5 (fun w hw => by go_simp) ?_
     refine any_take (i := 23) (v := .pointer (some ⟨gP, q * 18, none⟩)) rfl (by kernel_rfl) (fun _ _ _ h => h) rfl hS5 (fun w hw => by go_simp) ?_
     obtain ⟨gw', hGM⟩ := hGA.put (ju HQL) hsd (hG5.gs.row.put q (ju HQL) (rl n σ p1 b1, x1)) (ch_setCells _ _ _ _)
     refine any_skip (i := 24) (w' := w5.setCells gP (q * EPg.k) (EPg.enc (rl n σ p1 b1, x1))) (by kernel_rfl) rfl rfl (el_st_run (E := EPg) (.tmp 59) (.tmp 56) (by exact rfl) gP q (by show _ = Value.pointer (some ⟨gP, q * 18, none⟩); go_simp) (gc (rl n σ p1 b1) x1) (by go_simp) (rl n σ p1 b1, x1) rfl hG5.gs.row (ju HQL)) ⟨hGM.gs.box, ?_⟩
     have hS6 : (w5.setCells gP (q * EPg.k) (EPg.enc (rl n σ p1 b1, x1))).heap[b]? = some (.cells (grp n gP cP bM vW vD) 50) := hGM.gs.box
     generalize w5.setCells gP (q * EPg.k) (EPg.enc (rl n σ p1 b1, x1)) = w6 at *
     refine any_do (i := 25) (v := .int .i64 0) (w' := w6) (by kernel_rfl) rfl rfl (by go_simp) ⟨hS6, ?_⟩
     refine wpAnyH_done (by kernel_rfl) ?_ _
     have HM := jd hGM
     clear hGM hsd hS hS5 hS6 hGd hG5 hGA hA hnw hSA
     simp [Act.put]
     go_wp2_with fail
     go_meet
     case rel => exact ⟨q, none, 0, [], rfl, rfl, rfl, jd ⟨vW, Q, _, _, gw', by simpa using hln, hqn, ju HM⟩⟩
    ·refine any_do (i := 11) (v := .agg (gc s x)) (w' := wd.alloc (.cells #[.int .u8 ub1, .int .u8 ub2] 5)) (by kernel_rfl) rfl rfl (el_ld_run (E := EPg) (.tmp 47) (by exact rfl) gP q (by show _ = Value.pointer (some ⟨gP, q * 18, none⟩); go_simp) hGA.gs.row (ju HQL) Tryz.underlying31 (gc s x) (by rw [ju HSX]; rfl)) ⟨hSA, ?_⟩
     refine any_call (i := 18) (by kernel_rfl) rfl rfl (by go_simp) ((ju HTk) _ hGA) ?_
     rintro e w5 ⟨p1, b1, x1, v5, rfl, hsd⟩
     have hG5 := hGA.next hsd.bel
     have hS5 : w5.heap[b]? = some (.cells (grp n gP cP bM vW vD) 50) := hG5.gs.box
     refine ⟨_, rfl, hS5, ?_⟩
     refine any_take (i := 19) (v := .tuple #[.agg (gc (rl n σ p1 b1) x1), v5, .int .i64 0]) rfl (by kernel_rfl) (fun _ _ _ h => h) rfl hS5 (fun w hw => by go_simp) ?_
     refine any_take (i := 20) (v := .agg (gc (rl n σ p1 b1) x1)) rfl (by kernel_rfl) (fun _ _ _ h => h) rfl hS5 (fun w hw => by go_simp) ?_
     refine any_take (i := 21) (v := v5) rfl (by kernel_rfl) (fun _ _ _ h => h) rfl hS5 (fun w hw => by go_simp) ?_
     refine any_take (i := 22) (v := .int .i64 0) rfl (by kernel_rfl) (fun _ _ _ h => h) rfl hS5 (fun w hw => by go_simp) ?_
     refine any_take (i := 23) (v := .pointer (some ⟨gP, q * 18, none⟩)) rfl (by kernel_rfl) (fun _ _ _ h => h) rfl hS5 (fun w hw => by go_simp) ?_
     obtain ⟨gw', hGM⟩ := hGA.put (ju HQL) hsd (hG5.gs.row.put q (ju HQL) (rl n σ p1 b1, x1)) (ch_setCells _ _ _ _)
     refine any_skip (i := 24) (w' := w5.setCells gP (q * EPg.k) (EPg.enc (rl n σ p1 b1, x1))) (by kernel_rfl) rfl rfl (el_st_run (E := EPg) (.tmp 59) (.tmp 56) (by exact rfl) gP q (by show _ = Value.pointer (some ⟨gP, q * 18, none⟩); go_simp) (gc (rl n σ p1 b1) x1) (by go_simp) (rl n σ p1 b1, x1) rfl hG5.gs.row (ju HQL)) ⟨hGM.gs.box, ?_⟩
     have hS6 : (w5.setCells gP (q * EPg.k) (EPg.enc (rl n σ p1 b1, x1))).heap[b]? = some (.cells (grp n gP cP bM vW vD) 50) := hGM.gs.box
     generalize w5.setCells gP (q * EPg.k) (EPg.enc (rl n σ p1 b1, x1)) = w6 at *
     refine any_do (i := 25) (v := .int .i64 0) (w' := w6) (by kernel_rfl) rfl rfl (by go_simp) ⟨hS6, ?_⟩
     refine wpAnyH_done (by kernel_rfl) ?_ _
     have HM := jd hGM
     clear hGM hsd hS hS5 hS6 hGd hG5 hGA hA hnw hSA
     simp [Act.put]
     go_wp2_with fail
     go_meet
     case rel => exact ⟨q, none, 0, [], rfl, rfl, rfl, jd ⟨vW, Q, _, _, gw', by simpa using hln, hqn, ju HM⟩⟩
  ·have er : (s.role == 2) = false := by simp [hr]
   clear hr
   go_wp2_with fail
   go_meet
   case rel => exact ⟨q, none, 0, [], rfl, rfl, rfl, jd ⟨vW, Q, L, M, gw, hln, hqn, (ju HV).idle q⟩⟩
 case rest =>
  obtain ⟨q1, aO, cO, O, rfl, rfl, rfl, hcut2⟩ := hcut
  obtain ⟨vW1, Q1, L1, M1, gw1, hL1, hq1, hM⟩ := ju hcut2
  have HM := jd hM
  clear hM hcut2 c0 c2
  have HQ2 : Hid (q1 < L1.length) := jd (by omega)
  have HWL : Hid (Q1.length ≤ 300) := jd (ju HM).ql
  have HBS := jd (ju HM).gs.bel.size
  obtain ⟨aW2, cW2, gW2, eW2, _, _, _⟩ := (ju HM).gs.wo.shape
  subst eW2
  have y1 := (ju HM).gs.c1
  by_cases hl : Q1.length < 150
  ·have hli : (Q1.length : Int) < 150 := by omega
   go_wp2_with (first
    | (at_builtin; with_reducible refine elq_app (ju HM).gs.wo (ju HBS) (ju HM).oo (ju HM).ol (ju HWL) (.tmp 252) (.tmp 253) ?_ ?_ ?_ ?_ ?_; exact rfl; exact rfl; (first | exact rfl | simp [Act.eval]); (first | exact rfl | simp [Act.eval]); intro a8 c8 w8 ho8 hg8; have HJ := jd (aI ho8 hg8); have HBX := jd (row_grown (ju HM).gs.box (ju HM).gs.wo hg8 (by decide)); have y1 : w8.cell? ⟨b, 1, none⟩ = some (.slice aW2 Q1.length cW2) := (cell_of (ju HBX)).trans rfl; have f1 : w8.frozen? ⟨b, 1, none⟩ = false := free_row (ju HBX); clear ho8 hg8)
    | (go_at_call 33; have HK := jd ((ju HM).join hl (ju HJ).1 (ju HJ).2 (w2 := w8.setCell ⟨b, 1, none⟩ (.slice a8 (Q1.length + O.length) c8)) (row_set (ju HBX)) (Ch.set (ad := ⟨b, 1, none⟩) (Ch.refl (fun j => j = b) w8) (Or.inl rfl) _)); refine ((ju HK).held (by omega) (by omega) hn64 (by omega) (ju HQ2)).mono ?_; rintro e wz ⟨rfl, hgz⟩; have HF := jd hgz; clear hgz))
   go_ret
   obtain ⟨vD', D', ld', km', dn', hf⟩ := ju HF
   exact ⟨rfl, _, _, _, _, _, _, _, _, _, _, hf⟩
  ·have hli : ¬ ((Q1.length : Int) < 150) := by omega
   have HK := jd (ju HM).skip
   go_wp2_with (first
    | (go_at_call 33; refine ((ju HK).held (by omega) (by omega) hn64 (by omega) (ju HQ2)).mono ?_; rintro e wz ⟨rfl, hgz⟩; have HF := jd hgz; clear hgz))
   go_ret
   obtain ⟨vD', D', ld', km', dn', hf⟩ := ju HF
   exact ⟨rfl, _, _, _, _, _, _, _, _, _, _, hf⟩
end Go.Proofs.YthekbhliokcpcaaGreat
