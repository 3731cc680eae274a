/- A message comes, and stays under way. -/
import Derived.Test.YthipgcojbhcdgaaGreatNsd
namespace Go.Proofs.YthipgcojbhcdgaaGreat
open Go.RowKit Go.Maps Go.Sort
set_option maxRecDepth 100000 in
set_option maxHeartbeats 16000000 in
theorem step_1 {W w : World} {n b gP cP k : Nat} {vW vD : Value} {L : List (PP × Px)} {Q : List (QM × Option Addr × Nat)} {dn : List PE} (h : Gk W n b gP cP k vW vD L Q dn w) (hn1 : 1 ≤ n) (hn64 : n ≤ 64) (hk : k ≤ 800000) (A : Act4) (iz : Int) (ma mn : Nat) (hma : bits .and .i64 A.a 65535 = (ma : Int)) (hmn : bits .and .i64 A.n 65535 = (mn : Int)) (hop : A.op = 1) (hkp : A.keep = true) (hQ : Q.length ≠ 0) : Calls Tryz.prog 15 #[.pointer (some ⟨b, 0, none⟩), .agg (ac A), .int .i64 iz] w (StR W n b gP cP k (pstep n (pg L Q dn) A.op ma mn A.keep)) := by
  have hln := h.gs.len
  obtain ⟨r, hre⟩ : ∃ r : Nat, r = mn % Q.length := ⟨_, rfl⟩
  have hrl : r < Q.length := by rw [hre]; exact Nat.mod_lt _ (by omega)
  have hrt : (mn : Int).tmod (Q.length : Int) = (r : Int) := by rw [Int.tmod_eq_emod_of_nonneg (by omega)]; omega
  have hrt' : (mn : Int) % (Q.length : Int) = (r : Int) := by omega
  have hr0 : ((Q.length : Int) == 0) = false := beq_eq_false_iff_ne.2 (by omega)
  have hri : (r : Int) < (Q.length : Int) := by omega
  have hql3 := h.ql
  obtain ⟨qa, hqa⟩ : ∃ qa : Nat, qa = ma % n := ⟨_, rfl⟩
  have hqt : (ma : Int).tmod (n : Int) = (qa : Int) := by rw [Int.tmod_eq_emod_of_nonneg (by omega)]; omega
  have hqt' : (ma : Int) % (n : Int) = (qa : Int) := by omega
  have hn0 : ((n : Int) == 0) = false := beq_eq_false_iff_ne.2 (by omega)
  have hk9 : k + 1 ≤ 900000 := by omega
  obtain ⟨om, hom⟩ : ∃ om, Q[r] = om := ⟨_, rfl⟩
  have homm : om ∈ Q := by rw [← hom]; exact List.getElem_mem hrl
  obtain ⟨aW, cW, gW, eW, haW, _, hcW⟩ := h.gs.wo.shape
  have haW := haW (by omega)
  subst haW
  subst eW
  have HG := hide h
  have HRL : Hid (r < Q.length) := hide hrl
  have HOM : Hid (Q[r]'hrl = om) := hide hom
  have HEN0 := hide (h.gs.we om homm)
  have HCW := hide hcW
  have hto0 := h.to homm
  obtain ⟨q, hqq⟩ : ∃ q : Nat, q = (om.1.to - 1).toNat := ⟨_, rfl⟩
  have hql : q < L.length := by omega
  have hsub : IntKind.i64.wrap (om.1.to - 1) = (q : Int) := by rw [wrapI (by omega) (by omega)]; omega
  have hqn : (q : Int) < (n : Int) := by omega
  obtain ⟨s, z, hsz⟩ : ∃ s z, L[q] = (s, z) := ⟨_, _, rfl⟩
  have HQL : Hid (q < L.length) := hide hql
  have HSX : Hid (L[q]'hql = (s, z)) := hide hsz
  have hto : om.1.to = s.id := by have := (h.ok hql hsz).2; omega
  have hal := h.al
  have hwq := h.wq
  obtain ⟨g', hg'⟩ : ∃ g', g' = pstep n (pg L Q dn) A.op ma mn A.keep := ⟨_, rfl⟩
  rw [← hg']
  have hge0 : g' = put1 (pg L Q dn) q (if om.1.kind = 1 ∨ om.1.kind = 2 then (s.take n om.1.p).1 else (s.ltake om.1).1) (if om.1.kind = 1 ∨ om.1.kind = 2 then (s.take n om.1.p).2.map PM.q else (s.ltake om.1).2) := by
    rw [hg']
    unfold pstep
    have e1 : (pg L Q dn).2.1.length = Q.length := by simp [pg]
    rw [if_neg (by omega), e1, ← hre]
    have e2 : (pg L Q dn).2.1[r]? = some om.1 := by simp [pg, hrl, hom]
    rw [e2]
    dsimp only
    rw [if_neg (by omega), ← hqq]
    have e3 : (pg L Q dn).1[q]? = some s := by simp [pg, hql, hsz]
    rw [e3]
    dsimp only
    rw [if_pos hkp]
  have HT12 : Hid (om.1.kind = 1 ∨ om.1.kind = 2 → ∃ s1 out, g' = put1 (pg L Q dn) q s1 out ∧ ∀ w', Pq w' n s z → Calls Tryz.prog 43 #[.agg (pc n s z), .agg (qc om.1 om.2.1 om.2.2)] w' (SdR n k q L Q dn w' s1 out)) := hide (fun hkd => ⟨_, _, by rw [hge0, if_pos hkd, if_pos hkd], fun w' hp => take_sd hp hal hwq (fun _ ho => ho) hn64 hk hql hsz homm hkd hto⟩)
  have HT34 : Hid (¬ (om.1.kind = 1 ∨ om.1.kind = 2) → ∃ s1 out, g' = put1 (pg L Q dn) q s1 out ∧ ∀ w', Pq w' n s z → E69.O 0 w' (.slice om.2.1 om.1.ents.length om.2.2) om.1.ents → Calls Tryz.prog 44 #[.agg (pc n s z), .agg (qc om.1 om.2.1 om.2.2)] w' (SdR n k q L Q dn w' s1 out)) := hide (fun hkd => ⟨_, _, by rw [hge0, if_neg hkd, if_neg hkd], fun w' hp he => ltake_sd hp hal hwq (fun _ ho => ho) hn64 hk hql hsz homm he hkd hto⟩)
  have HAT := hide hcW
  clear h hln hom homm hre hqa hcW hto0 hqq hsz hto hal hwq hg' hge0 HAT
  go_enter Tryz.func15, Tryz.ntmps15
  go_wp2_with (first
    | (refine bx_boxH 46 (.tmp 1) (by exact rfl) (by exact rfl) (ac A) (by exact rfl) ?_; intro b4 w0 hr0 hs0 hb0; have HV := hide ((unhide HG).next hb0); have HR4 := hide hr0; have HVB := hide hb0; have c1 : w0.cell? ⟨b4, 1, none⟩ = some (.int .i64 A.a) := (cell_of hr0).trans rfl; have y0 := (unhide HV).gs.c0; clear hr0 hs0 hb0 HG))
  go_quiet (fail)
  have hb1 := (Bel.refl w0).drewN nq
  replace HV := hide ((unhide HV).next hb1)
  replace HR4 := hide (hb1.row (unhide HR4))
  replace HVB := hide ((unhide HVB).trans hb1)
  clear hb1 c1 y0
  generalize w0.drewN nq = w1 at *
  have c0 : w1.cell? ⟨b4, 0, none⟩ = some (.int .i64 A.op) := (cell_of (unhide HR4)).trans rfl
  have c2 : w1.cell? ⟨b4, 2, none⟩ = some (.int .i64 A.n) := (cell_of (unhide HR4)).trans rfl
  have c3 : w1.cell? ⟨b4, 3, none⟩ = some (.bool A.keep) := (cell_of (unhide HR4)).trans rfl
  have y1 := (unhide HV).gs.c1
  have HEN1 := hide ((unhide HEN0).bel (unhide HVB))
  rw [hop] at c0
  rw [hkp] at c3
  go_upto_region 20 with (first
    | (with_reducible refine elq_ld (.tmp 101) gW r om (unhide HV).gs.wo (unhide HRL) (unhide HOM) ?_ ?_ ?_ ?_; exact rfl; exact rfl; (first | exact rfl | simp [Act.eval]))
    | (with_reducible refine bxq_new ?_ ?_ ?_; exact rfl; exact rfl; intro b11 w3 hr3 hs3 hb3; have HR3 := hide (And.intro hr3 (And.intro hs3 hb3)); clear hr3 hs3 hb3)
    | (with_reducible refine bxq_st (.tmp 11) (.tmp 102) b11 om.1 om.2.1 om.2.2 (unhide HR3).1 ?_ ?_ ?_ ?_ ?_; exact rfl; exact rfl; (first | exact rfl | simp [Act.put, Act.eval]); (first | exact rfl | simp [Act.put, Act.eval]); intro w4 hr4 hc4; have hb4 := bel_off (unhide HR3).2.2 hc4 (Nat.le_of_eq (unhide HR3).2.1); have HV3 := hide ((unhide HV).next hb4); have HR43 := hide (hb4.row (unhide HR4)); have HR11 := hide hr4; have HEN := hide ((unhide HEN1).bel hb4); have c0 : w4.cell? ⟨b4, 0, none⟩ = some (.int .i64 A.op) := (cell_of (unhide HR43)).trans rfl; rw [hop] at c0; have c3 : w4.cell? ⟨b4, 3, none⟩ = some (.bool A.keep) := (cell_of (unhide HR43)).trans rfl; rw [hkp] at c3; have m2 : w4.cell? ⟨b11, 2, none⟩ = some (.int .i64 om.1.to) := (Bq.of hr4).c2; have m0 : w4.cell? ⟨b11, 0, none⟩ = some (.int .u8 om.1.kind) := (Bq.of hr4).c0; clear hr4 hc4 hb4 HR3 HV HR4 HEN1 HEN0))
  by_cases kd1 : om.1.kind = 1
  · have e1 : (om.1.kind == 1) = true := by simp [kd1]
    have HTk := hide ((unhide HT12) (Or.inl kd1))
    obtain ⟨s1, out, hge, hTk⟩ := unhide HTk
    have HGE := hide hge
    have HTk := hide hTk
    clear hge hTk HT12 HT34 kd1
    go_wp2_with fail
    clear m0 m2 c0 c3
    have hGd := (unhide HV3).next (Bel.refl w4).drew
    have hRd := ((Bel.refl w4).drew).row (unhide HR11)
    have hEd := (unhide HEN).bel (Bel.refl w4).drew
    refine wp_region_held_drew (S := fun w => w.heap[b]? = some (.cells (gc n gP cP (.slice (some ⟨gW, 0, none⟩) Q.length cW) vD) 51) ∧ w.heap[b11]? = some (.cells (qc om.1 om.2.1 om.2.2) 27)) Tryz.follows ⟨hGd.gs.box, hRd⟩ (fun hS => ?_)
    generalize w4.drew = wd at *
    refine any_take (i := 0) (v := .pointer (some ⟨b, 0, none⟩)) rfl (by kernel_rfl) (by kernel_rfl) (by kernel_rfl) (fun _ _ _ h => h) rfl hS (fun w hw => by go_simp) ?_
    refine any_take (i := 1) (v := .pointer (some ⟨b, 0, none⟩)) rfl (by kernel_rfl) (by kernel_rfl) (by kernel_rfl) (fun _ _ _ h => h) rfl hS (fun w hw => by go_simp) ?_
    refine any_take (i := 2) (v := .pointer (some ⟨b, 0, none⟩)) rfl (by kernel_rfl) (by kernel_rfl) (by kernel_rfl) (fun _ _ _ h => h) rfl hS (fun w hw => by go_simp) ?_
    refine any_take (i := 3) (v := .slice (some ⟨gP, 0, none⟩) n cP) rfl (by kernel_rfl) (by kernel_rfl) (by kernel_rfl) (fun _ _ _ h => h) rfl hS (fun w hw => by have := (cell_of hw.1 : w.cell? ⟨b, 0, none⟩ = _); change w.cell? ⟨b, 0, none⟩ = some (.slice (some ⟨gP, 0, none⟩) n cP) at this; go_simp) ?_
    refine any_take (i := 4) (v := .int .i64 (q : Int)) rfl (by kernel_rfl) (by kernel_rfl) (by kernel_rfl) (fun _ _ _ h => h) rfl hS (fun w hw => by go_simp) ?_
    refine any_take (i := 5) (v := .pointer (some ⟨b, 0, none⟩)) rfl (by kernel_rfl) (by kernel_rfl) (by kernel_rfl) (fun _ _ _ h => h) rfl hS (fun w hw => by go_simp) ?_
    refine any_take (i := 6) (v := .pointer (some ⟨b, 0, none⟩)) rfl (by kernel_rfl) (by kernel_rfl) (by kernel_rfl) (fun _ _ _ h => h) rfl hS (fun w hw => by go_simp) ?_
    refine any_take (i := 7) (v := .pointer (some ⟨b, 0, none⟩)) rfl (by kernel_rfl) (by kernel_rfl) (by kernel_rfl) (fun _ _ _ h => h) rfl hS (fun w hw => by go_simp) ?_
    refine any_take (i := 8) (v := .slice (some ⟨gP, 0, none⟩) n cP) rfl (by kernel_rfl) (by kernel_rfl) (by kernel_rfl) (fun _ _ _ h => h) rfl hS (fun w hw => by have := (cell_of hw.1 : w.cell? ⟨b, 0, none⟩ = _); change w.cell? ⟨b, 0, none⟩ = some (.slice (some ⟨gP, 0, none⟩) n cP) at this; go_simp) ?_
    refine any_take (i := 9) (v := .int .i64 (q : Int)) rfl (by kernel_rfl) (by kernel_rfl) (by kernel_rfl) (fun _ _ _ h => h) rfl hS (fun w hw => by go_simp) ?_
    refine any_take (i := 10) (v := .pointer (some ⟨gP, q * 18, none⟩)) rfl (by kernel_rfl) (by kernel_rfl) (by kernel_rfl) (fun _ _ _ h => h) rfl hS (fun w hw => by go_simp) ?_
    refine any_ldq (i := 12) (b := b11) (y := .tmp 11) rfl (by kernel_rfl) (by kernel_rfl) (by kernel_rfl) (fun _ _ _ h => h) rfl hS (by exact rfl) (by go_simp) (fun w hw => hw.2) ?_
    refine any_do (i := 11) (v := .agg (pc n s z)) (w' := wd) (by kernel_rfl) rfl rfl (el_ld_run (E := E32 n) (.tmp 154) (by exact rfl) gP q (by show _ = Value.pointer (some ⟨gP, q * 18, none⟩); go_simp) hGd.gs.row (unhide HQL) Tryz.underlying56 (pc n s z) (by rw [unhide HSX]; rfl)) ⟨hS, ?_⟩
    refine any_call (i := 13) (by kernel_rfl) rfl rfl (by go_simp) ((unhide HTk) wd (hGd.pq (unhide HQL) (unhide HSX))) ?_
    rintro e w5 ⟨x1, aO, cO, O, rfl, hO, hsd⟩
    have hG5 := hGd.next hsd.bel
    have hS5 : w5.heap[b]? = some (.cells (gc n gP cP (.slice (some ⟨gW, 0, none⟩) Q.length cW) vD) 51) ∧ w5.heap[b11]? = some (.cells (qc om.1 om.2.1 om.2.2) 27) := ⟨hG5.gs.box, hsd.bel.row hRd⟩
    refine ⟨_, rfl, hS5, ?_⟩
    refine any_take (i := 14) (v := .tuple #[.agg (pc n s1 x1), .slice aO O.length cO, .int .i64 0]) rfl (by kernel_rfl) (by kernel_rfl) (by kernel_rfl) (fun _ _ _ h => h) rfl hS5 (fun w hw => by go_simp) ?_
    refine any_take (i := 15) (v := .agg (pc n s1 x1)) rfl (by kernel_rfl) (by kernel_rfl) (by kernel_rfl) (fun _ _ _ h => h) rfl hS5 (fun w hw => by go_simp) ?_
    refine any_take (i := 16) (v := .slice aO O.length cO) rfl (by kernel_rfl) (by kernel_rfl) (by kernel_rfl) (fun _ _ _ h => h) rfl hS5 (fun w hw => by go_simp) ?_
    refine any_take (i := 17) (v := .int .i64 0) rfl (by kernel_rfl) (by kernel_rfl) (by kernel_rfl) (fun _ _ _ h => h) rfl hS5 (fun w hw => by go_simp) ?_
    refine any_take (i := 18) (v := .pointer (some ⟨gP, q * 18, none⟩)) rfl (by kernel_rfl) (by kernel_rfl) (by kernel_rfl) (fun _ _ _ h => h) rfl hS5 (fun w hw => by go_simp) ?_
    have hGM := hGd.put hsd (hG5.gs.row.put q (unhide HQL) (s1, x1)) (ch_setCells _ _ _ _)
    refine any_skip (i := 19) (w' := w5.setCells gP (q * (E32 n).k) ((E32 n).enc (s1, x1))) (by kernel_rfl) rfl rfl (el_st_run (E := E32 n) (.tmp 161) (.tmp 158) (by exact rfl) gP q (by show _ = Value.pointer (some ⟨gP, q * 18, none⟩); go_simp) (pc n s1 x1) (by go_simp) (s1, x1) rfl hG5.gs.row (unhide HQL)) ⟨⟨hGM.gs.box, (ch_setCells gP _ _ w5).row (hsd.bel.row hRd) (ne_kind (hsd.bel.row hRd) (show w5.heap[gP]? = some (.cells _ 56) from (hG5.gs.row.block (k := gP) rfl).choose_spec) (by decide))⟩, ?_⟩
    have hS6 : (w5.setCells gP (q * (E32 n).k) ((E32 n).enc (s1, x1))).heap[b]? = some (.cells (gc n gP cP (.slice (some ⟨gW, 0, none⟩) Q.length cW) vD) 51) ∧ (w5.setCells gP (q * (E32 n).k) ((E32 n).enc (s1, x1))).heap[b11]? = some (.cells (qc om.1 om.2.1 om.2.2) 27) := ⟨hGM.gs.box, (ch_setCells gP _ _ w5).row (hsd.bel.row hRd) (ne_kind (hsd.bel.row hRd) (show w5.heap[gP]? = some (.cells _ 56) from (hG5.gs.row.block (k := gP) rfl).choose_spec) (by decide))⟩
    generalize w5.setCells gP (q * (E32 n).k) ((E32 n).enc (s1, x1)) = w6 at *
    refine any_do (i := 20) (v := .slice aO O.length cO) (w' := w6) (by kernel_rfl) rfl rfl (by go_simp) ⟨hS6, ?_⟩
    refine any_do (i := 21) (v := .int .i64 0) (w' := w6) (by kernel_rfl) rfl rfl (by go_simp) ⟨hS6, ?_⟩
    refine wpAnyH_done (by kernel_rfl) ?_ _
    have HM := hide hGM
    have HO := hide hO
    clear hGM hO hsd hS hS5 hS6 hGd hG5 hRd hEd
    have HQ2 : Hid (q < (L.set q (s1, x1)).length) := hide (by simpa using unhide HQL)
    have HWL : Hid ((Q).length ≤ 300) := hide (unhide HM).ql
    have HBS := hide (unhide HM).gs.bel.size
    have y1 := (unhide HM).gs.c1
    simp [Act.put]
    by_cases hl : (Q).length < 150
    · have hli : ((Q).length : Int) < 150 := by omega
      go_wp2_with (first
        | (at_builtin; with_reducible refine elq_app (unhide HM).gs.wo (unhide HBS) (unhide HM).oo (unhide HM).ol (unhide HWL) (.tmp 191) (.tmp 192) ?_ ?_ ?_ ?_ ?_; exact rfl; exact rfl; (first | exact rfl | simp [Act.eval]); (first | exact rfl | simp [Act.eval]); intro a8 c8 w8 ho8 hg8; have HJ := hide (And.intro ho8 hg8); have HBX := hide (row_grown (unhide HM).gs.box (unhide HM).gs.wo hg8 (by decide)); have y1 : w8.cell? ⟨b, 1, none⟩ = some (.slice (some ⟨gW, 0, none⟩) (Q).length cW) := (cell_of (unhide HBX)).trans rfl; have f1 : w8.frozen? ⟨b, 1, none⟩ = false := free_row (unhide HBX); clear ho8 hg8)
        | (go_at_call 45; have HK := hide ((unhide HM).join hl (unhide HJ).1 (unhide HJ).2 (w2 := w8.setCell ⟨b, 1, none⟩ (.slice a8 ((Q).length + O.length) c8)) (row_set (unhide HBX)) (Ch.set (ad := ⟨b, 1, none⟩) (Ch.refl (fun j => j = b) w8) (Or.inl rfl) _)); refine (holds_any (unhide HK).gs (unhide HK).al hn64 hk9 (unhide HQ2)).mono ?_; rintro e wz ⟨rfl, vD9, hgz⟩; have HF := hide ((unhide HK).held (unhide HQ2) hgz); clear hgz))
      go_ret
      exact ⟨rfl, _, _, _, _, _, unhide HF, (by rw [unhide HGE]; exact pg_put (unhide HQL) (unhide HO) (Or.inl ⟨hl, rfl⟩))⟩
    · have hli : ¬ (((Q).length : Int) < 150) := by omega
      have HK := hide (unhide HM).skip
      go_wp2_with (first
        | (go_at_call 45; refine (holds_any (unhide HK).gs (unhide HK).al hn64 hk9 (unhide HQ2)).mono ?_; rintro e wz ⟨rfl, vD9, hgz⟩; have HF := hide ((unhide HK).held (unhide HQ2) hgz); clear hgz))
      go_ret
      exact ⟨rfl, _, _, _, _, _, unhide HF, (by rw [unhide HGE]; exact pg_put (unhide HQL) (unhide HO) (Or.inr ⟨hl, rfl⟩))⟩
  · have e1 : (om.1.kind == 1) = false := by simp [kd1]
    by_cases kd2 : om.1.kind = 2
    · have e2 : (om.1.kind == 2) = true := by simp [kd2]
      have HTk := hide ((unhide HT12) (Or.inr kd2))
      obtain ⟨s1, out, hge, hTk⟩ := unhide HTk
      have HGE := hide hge
      have HTk := hide hTk
      clear hge hTk HT12 HT34 kd1 kd2
      go_wp2_with fail
      clear m0 m2 c0 c3
      have hGd := (unhide HV3).next (Bel.refl w4).drew
      have hRd := ((Bel.refl w4).drew).row (unhide HR11)
      have hEd := (unhide HEN).bel (Bel.refl w4).drew
      refine wp_region_held_drew (S := fun w => w.heap[b]? = some (.cells (gc n gP cP (.slice (some ⟨gW, 0, none⟩) Q.length cW) vD) 51) ∧ w.heap[b11]? = some (.cells (qc om.1 om.2.1 om.2.2) 27)) Tryz.follows ⟨hGd.gs.box, hRd⟩ (fun hS => ?_)
      generalize w4.drew = wd at *
      refine any_take (i := 0) (v := .pointer (some ⟨b, 0, none⟩)) rfl (by kernel_rfl) (by kernel_rfl) (by kernel_rfl) (fun _ _ _ h => h) rfl hS (fun w hw => by go_simp) ?_
      refine any_take (i := 1) (v := .pointer (some ⟨b, 0, none⟩)) rfl (by kernel_rfl) (by kernel_rfl) (by kernel_rfl) (fun _ _ _ h => h) rfl hS (fun w hw => by go_simp) ?_
      refine any_take (i := 2) (v := .pointer (some ⟨b, 0, none⟩)) rfl (by kernel_rfl) (by kernel_rfl) (by kernel_rfl) (fun _ _ _ h => h) rfl hS (fun w hw => by go_simp) ?_
      refine any_take (i := 3) (v := .slice (some ⟨gP, 0, none⟩) n cP) rfl (by kernel_rfl) (by kernel_rfl) (by kernel_rfl) (fun _ _ _ h => h) rfl hS (fun w hw => by have := (cell_of hw.1 : w.cell? ⟨b, 0, none⟩ = _); change w.cell? ⟨b, 0, none⟩ = some (.slice (some ⟨gP, 0, none⟩) n cP) at this; go_simp) ?_
      refine any_take (i := 4) (v := .int .i64 (q : Int)) rfl (by kernel_rfl) (by kernel_rfl) (by kernel_rfl) (fun _ _ _ h => h) rfl hS (fun w hw => by go_simp) ?_
      refine any_take (i := 5) (v := .pointer (some ⟨b, 0, none⟩)) rfl (by kernel_rfl) (by kernel_rfl) (by kernel_rfl) (fun _ _ _ h => h) rfl hS (fun w hw => by go_simp) ?_
      refine any_take (i := 6) (v := .pointer (some ⟨b, 0, none⟩)) rfl (by kernel_rfl) (by kernel_rfl) (by kernel_rfl) (fun _ _ _ h => h) rfl hS (fun w hw => by go_simp) ?_
      refine any_take (i := 7) (v := .pointer (some ⟨b, 0, none⟩)) rfl (by kernel_rfl) (by kernel_rfl) (by kernel_rfl) (fun _ _ _ h => h) rfl hS (fun w hw => by go_simp) ?_
      refine any_take (i := 8) (v := .slice (some ⟨gP, 0, none⟩) n cP) rfl (by kernel_rfl) (by kernel_rfl) (by kernel_rfl) (fun _ _ _ h => h) rfl hS (fun w hw => by have := (cell_of hw.1 : w.cell? ⟨b, 0, none⟩ = _); change w.cell? ⟨b, 0, none⟩ = some (.slice (some ⟨gP, 0, none⟩) n cP) at this; go_simp) ?_
      refine any_take (i := 9) (v := .int .i64 (q : Int)) rfl (by kernel_rfl) (by kernel_rfl) (by kernel_rfl) (fun _ _ _ h => h) rfl hS (fun w hw => by go_simp) ?_
      refine any_take (i := 10) (v := .pointer (some ⟨gP, q * 18, none⟩)) rfl (by kernel_rfl) (by kernel_rfl) (by kernel_rfl) (fun _ _ _ h => h) rfl hS (fun w hw => by go_simp) ?_
      refine any_ldq (i := 12) (b := b11) (y := .tmp 11) rfl (by kernel_rfl) (by kernel_rfl) (by kernel_rfl) (fun _ _ _ h => h) rfl hS (by exact rfl) (by go_simp) (fun w hw => hw.2) ?_
      refine any_do (i := 11) (v := .agg (pc n s z)) (w' := wd) (by kernel_rfl) rfl rfl (el_ld_run (E := E32 n) (.tmp 154) (by exact rfl) gP q (by show _ = Value.pointer (some ⟨gP, q * 18, none⟩); go_simp) hGd.gs.row (unhide HQL) Tryz.underlying56 (pc n s z) (by rw [unhide HSX]; rfl)) ⟨hS, ?_⟩
      refine any_call (i := 13) (by kernel_rfl) rfl rfl (by go_simp) ((unhide HTk) wd (hGd.pq (unhide HQL) (unhide HSX))) ?_
      rintro e w5 ⟨x1, aO, cO, O, rfl, hO, hsd⟩
      have hG5 := hGd.next hsd.bel
      have hS5 : w5.heap[b]? = some (.cells (gc n gP cP (.slice (some ⟨gW, 0, none⟩) Q.length cW) vD) 51) ∧ w5.heap[b11]? = some (.cells (qc om.1 om.2.1 om.2.2) 27) := ⟨hG5.gs.box, hsd.bel.row hRd⟩
      refine ⟨_, rfl, hS5, ?_⟩
      refine any_take (i := 14) (v := .tuple #[.agg (pc n s1 x1), .slice aO O.length cO, .int .i64 0]) rfl (by kernel_rfl) (by kernel_rfl) (by kernel_rfl) (fun _ _ _ h => h) rfl hS5 (fun w hw => by go_simp) ?_
      refine any_take (i := 15) (v := .agg (pc n s1 x1)) rfl (by kernel_rfl) (by kernel_rfl) (by kernel_rfl) (fun _ _ _ h => h) rfl hS5 (fun w hw => by go_simp) ?_
      refine any_take (i := 16) (v := .slice aO O.length cO) rfl (by kernel_rfl) (by kernel_rfl) (by kernel_rfl) (fun _ _ _ h => h) rfl hS5 (fun w hw => by go_simp) ?_
      refine any_take (i := 17) (v := .int .i64 0) rfl (by kernel_rfl) (by kernel_rfl) (by kernel_rfl) (fun _ _ _ h => h) rfl hS5 (fun w hw => by go_simp) ?_
      refine any_take (i := 18) (v := .pointer (some ⟨gP, q * 18, none⟩)) rfl (by kernel_rfl) (by kernel_rfl) (by kernel_rfl) (fun _ _ _ h => h) rfl hS5 (fun w hw => by go_simp) ?_
      have hGM := hGd.put hsd (hG5.gs.row.put q (unhide HQL) (s1, x1)) (ch_setCells _ _ _ _)
      refine any_skip (i := 19) (w' := w5.setCells gP (q * (E32 n).k) ((E32 n).enc (s1, x1))) (by kernel_rfl) rfl rfl (el_st_run (E := E32 n) (.tmp 161) (.tmp 158) (by exact rfl) gP q (by show _ = Value.pointer (some ⟨gP, q * 18, none⟩); go_simp) (pc n s1 x1) (by go_simp) (s1, x1) rfl hG5.gs.row (unhide HQL)) ⟨⟨hGM.gs.box, (ch_setCells gP _ _ w5).row (hsd.bel.row hRd) (ne_kind (hsd.bel.row hRd) (show w5.heap[gP]? = some (.cells _ 56) from (hG5.gs.row.block (k := gP) rfl).choose_spec) (by decide))⟩, ?_⟩
      have hS6 : (w5.setCells gP (q * (E32 n).k) ((E32 n).enc (s1, x1))).heap[b]? = some (.cells (gc n gP cP (.slice (some ⟨gW, 0, none⟩) Q.length cW) vD) 51) ∧ (w5.setCells gP (q * (E32 n).k) ((E32 n).enc (s1, x1))).heap[b11]? = some (.cells (qc om.1 om.2.1 om.2.2) 27) := ⟨hGM.gs.box, (ch_setCells gP _ _ w5).row (hsd.bel.row hRd) (ne_kind (hsd.bel.row hRd) (show w5.heap[gP]? = some (.cells _ 56) from (hG5.gs.row.block (k := gP) rfl).choose_spec) (by decide))⟩
      generalize w5.setCells gP (q * (E32 n).k) ((E32 n).enc (s1, x1)) = w6 at *
      refine any_do (i := 20) (v := .slice aO O.length cO) (w' := w6) (by kernel_rfl) rfl rfl (by go_simp) ⟨hS6, ?_⟩
      refine any_do (i := 21) (v := .int .i64 0) (w' := w6) (by kernel_rfl) rfl rfl (by go_simp) ⟨hS6, ?_⟩
      refine wpAnyH_done (by kernel_rfl) ?_ _
      have HM := hide hGM
      have HO := hide hO
      clear hGM hO hsd hS hS5 hS6 hGd hG5 hRd hEd
      have HQ2 : Hid (q < (L.set q (s1, x1)).length) := hide (by simpa using unhide HQL)
      have HWL : Hid ((Q).length ≤ 300) := hide (unhide HM).ql
      have HBS := hide (unhide HM).gs.bel.size
      have y1 := (unhide HM).gs.c1
      simp [Act.put]
      by_cases hl : (Q).length < 150
      · have hli : ((Q).length : Int) < 150 := by omega
        go_wp2_with (first
          | (at_builtin; with_reducible refine elq_app (unhide HM).gs.wo (unhide HBS) (unhide HM).oo (unhide HM).ol (unhide HWL) (.tmp 191) (.tmp 192) ?_ ?_ ?_ ?_ ?_; exact rfl; exact rfl; (first | exact rfl | simp [Act.eval]); (first | exact rfl | simp [Act.eval]); intro a8 c8 w8 ho8 hg8; have HJ := hide (And.intro ho8 hg8); have HBX := hide (row_grown (unhide HM).gs.box (unhide HM).gs.wo hg8 (by decide)); have y1 : w8.cell? ⟨b, 1, none⟩ = some (.slice (some ⟨gW, 0, none⟩) (Q).length cW) := (cell_of (unhide HBX)).trans rfl; have f1 : w8.frozen? ⟨b, 1, none⟩ = false := free_row (unhide HBX); clear ho8 hg8)
          | (go_at_call 45; have HK := hide ((unhide HM).join hl (unhide HJ).1 (unhide HJ).2 (w2 := w8.setCell ⟨b, 1, none⟩ (.slice a8 ((Q).length + O.length) c8)) (row_set (unhide HBX)) (Ch.set (ad := ⟨b, 1, none⟩) (Ch.refl (fun j => j = b) w8) (Or.inl rfl) _)); refine (holds_any (unhide HK).gs (unhide HK).al hn64 hk9 (unhide HQ2)).mono ?_; rintro e wz ⟨rfl, vD9, hgz⟩; have HF := hide ((unhide HK).held (unhide HQ2) hgz); clear hgz))
        go_ret
        exact ⟨rfl, _, _, _, _, _, unhide HF, (by rw [unhide HGE]; exact pg_put (unhide HQL) (unhide HO) (Or.inl ⟨hl, rfl⟩))⟩
      · have hli : ¬ (((Q).length : Int) < 150) := by omega
        have HK := hide (unhide HM).skip
        go_wp2_with (first
          | (go_at_call 45; refine (holds_any (unhide HK).gs (unhide HK).al hn64 hk9 (unhide HQ2)).mono ?_; rintro e wz ⟨rfl, vD9, hgz⟩; have HF := hide ((unhide HK).held (unhide HQ2) hgz); clear hgz))
        go_ret
        exact ⟨rfl, _, _, _, _, _, unhide HF, (by rw [unhide HGE]; exact pg_put (unhide HQL) (unhide HO) (Or.inr ⟨hl, rfl⟩))⟩
    · have e2 : (om.1.kind == 2) = false := by simp [kd2]
      have HTk := hide ((unhide HT34) (by rintro (h1 | h1) <;> contradiction))
      obtain ⟨s1, out, hge, hTk⟩ := unhide HTk
      have HGE := hide hge
      have HTk := hide hTk
      clear hge hTk HT12 HT34 kd1 kd2
      go_wp2_with fail
      clear m0 m2 c0 c3
      have hGd := (unhide HV3).next (Bel.refl w4).drew
      have hRd := ((Bel.refl w4).drew).row (unhide HR11)
      have hEd := (unhide HEN).bel (Bel.refl w4).drew
      refine wp_region_held_drew (S := fun w => w.heap[b]? = some (.cells (gc n gP cP (.slice (some ⟨gW, 0, none⟩) Q.length cW) vD) 51) ∧ w.heap[b11]? = some (.cells (qc om.1 om.2.1 om.2.2) 27)) Tryz.follows ⟨hGd.gs.box, hRd⟩ (fun hS => ?_)
      generalize w4.drew = wd at *
      refine any_take (i := 0) (v := .pointer (some ⟨b, 0, none⟩)) rfl (by kernel_rfl) (by kernel_rfl) (by kernel_rfl) (fun _ _ _ h => h) rfl hS (fun w hw => by go_simp) ?_
      refine any_take (i := 1) (v := .pointer (some ⟨b, 0, none⟩)) rfl (by kernel_rfl) (by kernel_rfl) (by kernel_rfl) (fun _ _ _ h => h) rfl hS (fun w hw => by go_simp) ?_
      refine any_take (i := 2) (v := .pointer (some ⟨b, 0, none⟩)) rfl (by kernel_rfl) (by kernel_rfl) (by kernel_rfl) (fun _ _ _ h => h) rfl hS (fun w hw => by go_simp) ?_
      refine any_take (i := 3) (v := .slice (some ⟨gP, 0, none⟩) n cP) rfl (by kernel_rfl) (by kernel_rfl) (by kernel_rfl) (fun _ _ _ h => h) rfl hS (fun w hw => by have := (cell_of hw.1 : w.cell? ⟨b, 0, none⟩ = _); change w.cell? ⟨b, 0, none⟩ = some (.slice (some ⟨gP, 0, none⟩) n cP) at this; go_simp) ?_
      refine any_take (i := 4) (v := .int .i64 (q : Int)) rfl (by kernel_rfl) (by kernel_rfl) (by kernel_rfl) (fun _ _ _ h => h) rfl hS (fun w hw => by go_simp) ?_
      refine any_take (i := 5) (v := .pointer (some ⟨b, 0, none⟩)) rfl (by kernel_rfl) (by kernel_rfl) (by kernel_rfl) (fun _ _ _ h => h) rfl hS (fun w hw => by go_simp) ?_
      refine any_take (i := 6) (v := .pointer (some ⟨b, 0, none⟩)) rfl (by kernel_rfl) (by kernel_rfl) (by kernel_rfl) (fun _ _ _ h => h) rfl hS (fun w hw => by go_simp) ?_
      refine any_take (i := 7) (v := .pointer (some ⟨b, 0, none⟩)) rfl (by kernel_rfl) (by kernel_rfl) (by kernel_rfl) (fun _ _ _ h => h) rfl hS (fun w hw => by go_simp) ?_
      refine any_take (i := 8) (v := .slice (some ⟨gP, 0, none⟩) n cP) rfl (by kernel_rfl) (by kernel_rfl) (by kernel_rfl) (fun _ _ _ h => h) rfl hS (fun w hw => by have := (cell_of hw.1 : w.cell? ⟨b, 0, none⟩ = _); change w.cell? ⟨b, 0, none⟩ = some (.slice (some ⟨gP, 0, none⟩) n cP) at this; go_simp) ?_
      refine any_take (i := 9) (v := .int .i64 (q : Int)) rfl (by kernel_rfl) (by kernel_rfl) (by kernel_rfl) (fun _ _ _ h => h) rfl hS (fun w hw => by go_simp) ?_
      refine any_take (i := 10) (v := .pointer (some ⟨gP, q * 18, none⟩)) rfl (by kernel_rfl) (by kernel_rfl) (by kernel_rfl) (fun _ _ _ h => h) rfl hS (fun w hw => by go_simp) ?_
      refine any_ldq (i := 12) (b := b11) (y := .tmp 11) rfl (by kernel_rfl) (by kernel_rfl) (by kernel_rfl) (fun _ _ _ h => h) rfl hS (by exact rfl) (by go_simp) (fun w hw => hw.2) ?_
      refine any_do (i := 11) (v := .agg (pc n s z)) (w' := wd) (by kernel_rfl) rfl rfl (el_ld_run (E := E32 n) (.tmp 173) (by exact rfl) gP q (by show _ = Value.pointer (some ⟨gP, q * 18, none⟩); go_simp) hGd.gs.row (unhide HQL) Tryz.underlying56 (pc n s z) (by rw [unhide HSX]; rfl)) ⟨hS, ?_⟩
      refine any_call (i := 13) (by kernel_rfl) rfl rfl (by go_simp) ((unhide HTk) wd (hGd.pq (unhide HQL) (unhide HSX)) hEd) ?_
      rintro e w5 ⟨x1, aO, cO, O, rfl, hO, hsd⟩
      have hG5 := hGd.next hsd.bel
      have hS5 : w5.heap[b]? = some (.cells (gc n gP cP (.slice (some ⟨gW, 0, none⟩) Q.length cW) vD) 51) ∧ w5.heap[b11]? = some (.cells (qc om.1 om.2.1 om.2.2) 27) := ⟨hG5.gs.box, hsd.bel.row hRd⟩
      refine ⟨_, rfl, hS5, ?_⟩
      refine any_take (i := 14) (v := .tuple #[.agg (pc n s1 x1), .slice aO O.length cO, .int .i64 0]) rfl (by kernel_rfl) (by kernel_rfl) (by kernel_rfl) (fun _ _ _ h => h) rfl hS5 (fun w hw => by go_simp) ?_
      refine any_take (i := 15) (v := .agg (pc n s1 x1)) rfl (by kernel_rfl) (by kernel_rfl) (by kernel_rfl) (fun _ _ _ h => h) rfl hS5 (fun w hw => by go_simp) ?_
      refine any_take (i := 16) (v := .slice aO O.length cO) rfl (by kernel_rfl) (by kernel_rfl) (by kernel_rfl) (fun _ _ _ h => h) rfl hS5 (fun w hw => by go_simp) ?_
      refine any_take (i := 17) (v := .int .i64 0) rfl (by kernel_rfl) (by kernel_rfl) (by kernel_rfl) (fun _ _ _ h => h) rfl hS5 (fun w hw => by go_simp) ?_
      refine any_take (i := 18) (v := .pointer (some ⟨gP, q * 18, none⟩)) rfl (by kernel_rfl) (by kernel_rfl) (by kernel_rfl) (fun _ _ _ h => h) rfl hS5 (fun w hw => by go_simp) ?_
      have hGM := hGd.put hsd (hG5.gs.row.put q (unhide HQL) (s1, x1)) (ch_setCells _ _ _ _)
      refine any_skip (i := 19) (w' := w5.setCells gP (q * (E32 n).k) ((E32 n).enc (s1, x1))) (by kernel_rfl) rfl rfl (el_st_run (E := E32 n) (.tmp 180) (.tmp 177) (by exact rfl) gP q (by show _ = Value.pointer (some ⟨gP, q * 18, none⟩); go_simp) (pc n s1 x1) (by go_simp) (s1, x1) rfl hG5.gs.row (unhide HQL)) ⟨⟨hGM.gs.box, (ch_setCells gP _ _ w5).row (hsd.bel.row hRd) (ne_kind (hsd.bel.row hRd) (show w5.heap[gP]? = some (.cells _ 56) from (hG5.gs.row.block (k := gP) rfl).choose_spec) (by decide))⟩, ?_⟩
      have hS6 : (w5.setCells gP (q * (E32 n).k) ((E32 n).enc (s1, x1))).heap[b]? = some (.cells (gc n gP cP (.slice (some ⟨gW, 0, none⟩) Q.length cW) vD) 51) ∧ (w5.setCells gP (q * (E32 n).k) ((E32 n).enc (s1, x1))).heap[b11]? = some (.cells (qc om.1 om.2.1 om.2.2) 27) := ⟨hGM.gs.box, (ch_setCells gP _ _ w5).row (hsd.bel.row hRd) (ne_kind (hsd.bel.row hRd) (show w5.heap[gP]? = some (.cells _ 56) from (hG5.gs.row.block (k := gP) rfl).choose_spec) (by decide))⟩
      generalize w5.setCells gP (q * (E32 n).k) ((E32 n).enc (s1, x1)) = w6 at *
      refine any_do (i := 20) (v := .slice aO O.length cO) (w' := w6) (by kernel_rfl) rfl rfl (by go_simp) ⟨hS6, ?_⟩
      refine any_do (i := 21) (v := .int .i64 0) (w' := w6) (by kernel_rfl) rfl rfl (by go_simp) ⟨hS6, ?_⟩
      refine wpAnyH_done (by kernel_rfl) ?_ _
      have HM := hide hGM
      have HO := hide hO
      clear hGM hO hsd hS hS5 hS6 hGd hG5 hRd hEd
      have HQ2 : Hid (q < (L.set q (s1, x1)).length) := hide (by simpa using unhide HQL)
      have HWL : Hid ((Q).length ≤ 300) := hide (unhide HM).ql
      have HBS := hide (unhide HM).gs.bel.size
      have y1 := (unhide HM).gs.c1
      simp [Act.put]
      by_cases hl : (Q).length < 150
      · have hli : ((Q).length : Int) < 150 := by omega
        go_wp2_with (first
          | (at_builtin; with_reducible refine elq_app (unhide HM).gs.wo (unhide HBS) (unhide HM).oo (unhide HM).ol (unhide HWL) (.tmp 191) (.tmp 192) ?_ ?_ ?_ ?_ ?_; exact rfl; exact rfl; (first | exact rfl | simp [Act.eval]); (first | exact rfl | simp [Act.eval]); intro a8 c8 w8 ho8 hg8; have HJ := hide (And.intro ho8 hg8); have HBX := hide (row_grown (unhide HM).gs.box (unhide HM).gs.wo hg8 (by decide)); have y1 : w8.cell? ⟨b, 1, none⟩ = some (.slice (some ⟨gW, 0, none⟩) (Q).length cW) := (cell_of (unhide HBX)).trans rfl; have f1 : w8.frozen? ⟨b, 1, none⟩ = false := free_row (unhide HBX); clear ho8 hg8)
          | (go_at_call 45; have HK := hide ((unhide HM).join hl (unhide HJ).1 (unhide HJ).2 (w2 := w8.setCell ⟨b, 1, none⟩ (.slice a8 ((Q).length + O.length) c8)) (row_set (unhide HBX)) (Ch.set (ad := ⟨b, 1, none⟩) (Ch.refl (fun j => j = b) w8) (Or.inl rfl) _)); refine (holds_any (unhide HK).gs (unhide HK).al hn64 hk9 (unhide HQ2)).mono ?_; rintro e wz ⟨rfl, vD9, hgz⟩; have HF := hide ((unhide HK).held (unhide HQ2) hgz); clear hgz))
        go_ret
        exact ⟨rfl, _, _, _, _, _, unhide HF, (by rw [unhide HGE]; exact pg_put (unhide HQL) (unhide HO) (Or.inl ⟨hl, rfl⟩))⟩
      · have hli : ¬ (((Q).length : Int) < 150) := by omega
        have HK := hide (unhide HM).skip
        go_wp2_with (first
          | (go_at_call 45; refine (holds_any (unhide HK).gs (unhide HK).al hn64 hk9 (unhide HQ2)).mono ?_; rintro e wz ⟨rfl, vD9, hgz⟩; have HF := hide ((unhide HK).held (unhide HQ2) hgz); clear hgz))
        go_ret
        exact ⟨rfl, _, _, _, _, _, unhide HF, (by rw [unhide HGE]; exact pg_put (unhide HQL) (unhide HO) (Or.inr ⟨hl, rfl⟩))⟩
end Go.Proofs.YthipgcojbhcdgaaGreat
