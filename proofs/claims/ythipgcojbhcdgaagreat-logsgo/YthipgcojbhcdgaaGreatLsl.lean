/- A proposal, or nothing. -/
import Derived.Test.YthipgcojbhcdgaaGreatNsd
import Derived.Laws.BytesArg
namespace Go.Proofs.YthipgcojbhcdgaaGreat
open Go.RowKit Go.Maps Go.Sort
section
variable {o : Oper} {a : Act} {w : World}
theorem two_run (X : Operand) (ho : o.op = .convert 70 9 X) {g : Nat} {x y : Int} (hx : a.eval X = .slice (some ⟨g, 0, none⟩) 2 2) (hr : w.heap[g]? = some (.cells #[.int .u8 x, .int .u8 y] 5)) : (execOp a.eval o).run Tryz.prog w = .ok (.value (.string (strOfNums [x, y]))) w := by
  have c0 : w.cell? ⟨g, 0, none⟩ = some (.int .u8 x) := (cell_of hr).trans rfl
  have c1 : w.cell? ⟨g, 1, none⟩ = some (.int .u8 y) := (cell_of hr).trans rfl
  have := run_convert_bytes_arg (P := Tryz.prog) w 70 5 Tryz.underlying70 Tryz.underlying5 g 0 2 2 [x, y] rfl (fun i hi => by
    rcases i with _ | _ | i
    · exact c0
    · exact c1
    · omega) 9 Tryz.underlying9
  unfold execOp
  simp only [ho, hx, Sem.run_bind, this, Result.andThen_ok, Sem.run_pure]
end
set_option maxRecDepth 100000 in
set_option maxHeartbeats 16000000 in
theorem step_d {W w : World} {n b gP cP k : Nat} {vW vD : Value} {L : List (PP × Px)} {Q : List (QM × Option Addr × Nat)} {dn : List PE} (h : Gk W n b gP cP k vW vD L Q dn w) (hn1 : 1 ≤ n) (hn64 : n ≤ 64) (hk : k ≤ 800000) (A : Act4) (iz : Int) (ma mn : Nat) (hma : bits .and .i64 A.a 65535 = (ma : Int)) (hmn : bits .and .i64 A.n 65535 = (mn : Int)) (h0 : A.op ≠ 0) (h1 : A.op ≠ 1) (h2 : A.op ≠ 2) : Calls Tryz.prog 15 #[.pointer (some ⟨b, 0, none⟩), .agg (ac A), .int .i64 iz] w fun e w' => ∃ g', StR W n b gP cP k g' e w' := by
  have hln := h.gs.len
  obtain ⟨q, hqe⟩ : ∃ q : Nat, q = ma % n := ⟨_, rfl⟩
  have hqn : q < n := by rw [hqe]; exact Nat.mod_lt _ (by omega)
  have hqt : (ma : Int).tmod (n : Int) = (q : Int) := by rw [Int.tmod_eq_emod_of_nonneg (by omega)]; omega
  have hqt' : (ma : Int) % (n : Int) = (q : Int) := by omega
  have hn0 : ((n : Int) == 0) = false := beq_eq_false_iff_ne.2 (by omega)
  have hk9 : k + 1 ≤ 900000 := by omega
  have hql : q < L.length := by omega
  obtain ⟨s, z, hsz⟩ : ∃ s z, L[q] = (s, z) := ⟨_, _, rfl⟩
  have HG := hide h
  have HQL : Hid (q < L.length) := hide hql
  have HSX : Hid (L[q]'hql = (s, z)) := hide hsz
  have HQE := hide hqe
  have e0 : (A.op == 0) = false := by simp [h0]
  have e1 : (A.op == 1) = false := by simp [h1]
  have e2 : (A.op == 2) = false := by simp [h2]
  obtain ⟨ub1, hub1⟩ : ∃ u, u = IntKind.u8.wrap iz := ⟨_, rfl⟩
  obtain ⟨ub2, hub2⟩ : ∃ u, u = IntKind.u8.wrap (mn : Int) := ⟨_, rfl⟩
  have HTk : Hid (s.role = 2 → ∀ w', Gk W n b gP cP k vW vD L Q dn w' → Calls Tryz.prog 16 #[.agg (pc n s z), .string (strOfNums [ub1, ub2])] w' fun e w'' => ∃ x1 v, e = .returned (.tuple #[.agg (pc n (s.prop (strOfNums [ub1, ub2])) x1), v, .int .i64 0]) ∧ Sd n k q L Q dn w' (s.prop (strOfNums [ub1, ub2])) x1 (.slice none 0 0) [] w'') := hide (fun hr w' hw' => prop_sd hw' hn64 hk hql hsz _ (by show (2 : Nat) ≤ 1048576; decide) hr)
  obtain ⟨s1, hs1⟩ : ∃ s1, s1 = s.prop (strOfNums [ub1, ub2]) := ⟨_, rfl⟩
  rw [← hs1] at HTk
  clear h hln hsz hs1 hqe
  go_enter Tryz.func15, Tryz.ntmps15
  go_wp2_with (first
    | (refine bx_boxH 46 (.tmp 1) (by exact rfl) (by exact rfl) (ac A) (by exact rfl) ?_; intro b4 w0 hr0 hs0 hb0; have HV := hide ((unhide HG).next hb0); have HR4 := hide hr0; have c1 : w0.cell? ⟨b4, 1, none⟩ = some (.int .i64 A.a) := (cell_of hr0).trans rfl; have y0 := (unhide HV).gs.c0; clear hr0 hs0 hb0 HG))
  go_quiet (fail)
  have hb1 := (Bel.refl w0).drewN nq
  replace HV := hide ((unhide HV).next hb1)
  replace HR4 := hide (hb1.row (unhide HR4))
  clear hb1 c1 y0
  generalize w0.drewN nq = w1 at *
  have c0 : w1.cell? ⟨b4, 0, none⟩ = some (.int .i64 A.op) := (cell_of (unhide HR4)).trans rfl
  have c2 : w1.cell? ⟨b4, 2, none⟩ = some (.int .i64 A.n) := (cell_of (unhide HR4)).trans rfl
  go_upto_block 0 with fail
  go_cut [7, 9, 10] (fun v7 v9 v10 wx => v7 = .int .i64 (q : Int) ∧ v9 = .slice none 0 0 ∧ v10 = .int .i64 0 ∧ Hid (∃ L1, L1.length = L.length ∧ Gm W n b gP cP (k + 1) vW vD L1 Q dn (.slice none 0 0) [] wx))
  case first =>
    have y0 := (unhide HV).gs.c0
    have y4 := (unhide HV).gs.at (unhide HQL) (unhide HSX) 4 (.int .u8 s.role) rfl
    by_cases hr : s.role = 2
    · have er : (s.role == 2) = true := by simp [hr]
      replace HTk := hide ((unhide HTk) hr)
      clear hr
      go_wp2_with fail
      clear c0 c2 y0 y4
      have hGd := (unhide HV).next (Bel.refl w1).drew
      refine wp_region_held_drew (S := fun w => w.heap[b]? = some (.cells (gc n gP cP vW vD) 51)) Tryz.follows hGd.gs.box (fun hS => ?_)
      generalize w1.drew = wd at *
      refine any_take (i := 0) (v := .pointer (some ⟨b, 0, none⟩)) rfl (by kernel_rfl) (by kernel_rfl) (by kernel_rfl) (fun _ _ _ h => h) rfl hS (fun w hw => by go_simp) ?_
      refine any_take (i := 1) (v := .pointer (some ⟨b, 0, none⟩)) rfl (by kernel_rfl) (by kernel_rfl) (by kernel_rfl) (fun _ _ _ h => h) rfl hS (fun w hw => by go_simp) ?_
      refine any_take (i := 2) (v := .pointer (some ⟨b, 0, none⟩)) rfl (by kernel_rfl) (by kernel_rfl) (by kernel_rfl) (fun _ _ _ h => h) rfl hS (fun w hw => by go_simp) ?_
      refine any_take (i := 3) (v := .slice (some ⟨gP, 0, none⟩) n cP) rfl (by kernel_rfl) (by kernel_rfl) (by kernel_rfl) (fun _ _ _ h => h) rfl hS (fun w hw => by have := (cell_of hw : w.cell? ⟨b, 0, none⟩ = _); change w.cell? ⟨b, 0, none⟩ = some (.slice (some ⟨gP, 0, none⟩) n cP) at this; go_simp) ?_
      refine any_take (i := 4) (v := .int .i64 (q : Int)) rfl (by kernel_rfl) (by kernel_rfl) (by kernel_rfl) (fun _ _ _ h => h) rfl hS (fun w hw => by go_simp) ?_
      refine any_take (i := 5) (v := .pointer (some ⟨b, 0, none⟩)) rfl (by kernel_rfl) (by kernel_rfl) (by kernel_rfl) (fun _ _ _ h => h) rfl hS (fun w hw => by go_simp) ?_
      refine any_take (i := 6) (v := .pointer (some ⟨b, 0, none⟩)) rfl (by kernel_rfl) (by kernel_rfl) (by kernel_rfl) (fun _ _ _ h => h) rfl hS (fun w hw => by go_simp) ?_
      refine any_take (i := 7) (v := .pointer (some ⟨b, 0, none⟩)) rfl (by kernel_rfl) (by kernel_rfl) (by kernel_rfl) (fun _ _ _ h => h) rfl hS (fun w hw => by go_simp) ?_
      refine any_take (i := 8) (v := .slice (some ⟨gP, 0, none⟩) n cP) rfl (by kernel_rfl) (by kernel_rfl) (by kernel_rfl) (fun _ _ _ h => h) rfl hS (fun w hw => by have := (cell_of hw : w.cell? ⟨b, 0, none⟩ = _); change w.cell? ⟨b, 0, none⟩ = some (.slice (some ⟨gP, 0, none⟩) n cP) at this; go_simp) ?_
      refine any_take (i := 9) (v := .int .i64 (q : Int)) rfl (by kernel_rfl) (by kernel_rfl) (by kernel_rfl) (fun _ _ _ h => h) rfl hS (fun w hw => by go_simp) ?_
      refine any_take (i := 10) (v := .pointer (some ⟨gP, q * 18, none⟩)) rfl (by kernel_rfl) (by kernel_rfl) (by kernel_rfl) (fun _ _ _ h => h) rfl hS (fun w hw => by go_simp) ?_
      refine any_take (i := 12) (v := .int .i64 iz) rfl (by kernel_rfl) (by kernel_rfl) (by kernel_rfl) (fun _ _ _ h => h) rfl hS (fun w hw => by go_simp) ?_
      refine any_take (i := 13) (v := .int .u8 ub1) rfl (by kernel_rfl) (by kernel_rfl) (by kernel_rfl) (fun _ _ _ h => h) rfl hS (fun w hw => by rw [hub1]; go_simp) ?_
      refine any_take (i := 14) (v := .int .i64 (mn : Int)) rfl (by kernel_rfl) (by kernel_rfl) (by kernel_rfl) (fun _ _ _ h => h) rfl hS (fun w hw => by go_simp) ?_
      refine any_take (i := 15) (v := .int .u8 ub2) rfl (by kernel_rfl) (by kernel_rfl) (by kernel_rfl) (fun _ _ _ h => h) rfl hS (fun w hw => by rw [hub2]; go_simp) ?_
      have hA := (Bel.refl wd).alloc (.cells #[.int .u8 ub1, .int .u8 ub2] 5)
      have hGA := hGd.next hA
      have hnw := at_new wd (.cells #[.int .u8 ub1, .int .u8 ub2] 5)
      have hSA : (wd.alloc (.cells #[.int .u8 ub1, .int .u8 ub2] 5)).heap[b]? = some (.cells (gc n gP cP vW vD) 51) := hGA.gs.box
      refine any_twoV (i := 11) (j := 16) (vi := .agg (pc n s z)) (wi := wd) (vj := .slice (some ⟨wd.heap.size, 0, none⟩) 2 2) (wj := wd.alloc (.cells #[.int .u8 ub1, .int .u8 ub2] 5)) (by kernel_rfl) (by exact rfl) (by exact rfl) (by exact rfl) (by exact rfl) (el_ld_run (E := E32 n) (.tmp 46) (by exact rfl) gP q (by show _ = Value.pointer (some ⟨gP, q * 18, none⟩); go_simp) hGd.gs.row (unhide HQL) Tryz.underlying56 (pc n s z) (by rw [unhide HSX]; rfl)) (by go_simp) ⟨hS, ?_⟩ ⟨hSA, ?_⟩
      · refine any_do (i := 16) (v := .slice (some ⟨wd.heap.size, 0, none⟩) 2 2) (w' := wd.alloc (.cells #[.int .u8 ub1, .int .u8 ub2] 5)) (by kernel_rfl) rfl rfl (by go_simp) ⟨hSA, ?_⟩
        refine any_do (i := 17) (v := .string (strOfNums [ub1, ub2])) (w' := wd.alloc (.cells #[.int .u8 ub1, .int .u8 ub2] 5)) (by kernel_rfl) rfl rfl (two_run (.tmp 52) (by exact rfl) (by go_simp) hnw) ⟨hSA, ?_⟩
        refine any_call (i := 18) (by kernel_rfl) rfl rfl (by go_simp) ((unhide HTk) _ hGA) ?_
        rintro e w5 ⟨x1, v5, rfl, hsd⟩
        have hG5 := hGA.next hsd.bel
        have hS5 : w5.heap[b]? = some (.cells (gc n gP cP vW vD) 51) := hG5.gs.box
        refine ⟨_, rfl, hS5, ?_⟩
        refine any_take (i := 19) (v := .tuple #[.agg (pc n s1 x1), v5, .int .i64 0]) rfl (by kernel_rfl) (by kernel_rfl) (by kernel_rfl) (fun _ _ _ h => h) rfl hS5 (fun w hw => by go_simp) ?_
        refine any_take (i := 20) (v := .agg (pc n s1 x1)) rfl (by kernel_rfl) (by kernel_rfl) (by kernel_rfl) (fun _ _ _ h => h) rfl hS5 (fun w hw => by go_simp) ?_
        refine any_take (i := 21) (v := v5) rfl (by kernel_rfl) (by kernel_rfl) (by kernel_rfl) (fun _ _ _ h => h) rfl hS5 (fun w hw => by go_simp) ?_
        refine any_take (i := 22) (v := .int .i64 0) rfl (by kernel_rfl) (by kernel_rfl) (by kernel_rfl) (fun _ _ _ h => h) rfl hS5 (fun w hw => by go_simp) ?_
        refine any_take (i := 23) (v := .pointer (some ⟨gP, q * 18, none⟩)) rfl (by kernel_rfl) (by kernel_rfl) (by kernel_rfl) (fun _ _ _ h => h) rfl hS5 (fun w hw => by go_simp) ?_
        have hGM := hGA.put hsd (hG5.gs.row.put q (unhide HQL) (s1, x1)) (ch_setCells _ _ _ _)
        refine any_skip (i := 24) (w' := w5.setCells gP (q * (E32 n).k) ((E32 n).enc (s1, x1))) (by kernel_rfl) rfl rfl (el_st_run (E := E32 n) (.tmp 58) (.tmp 55) (by exact rfl) gP q (by show _ = Value.pointer (some ⟨gP, q * 18, none⟩); go_simp) (pc n s1 x1) (by go_simp) (s1, x1) rfl hG5.gs.row (unhide HQL)) ⟨hGM.gs.box, ?_⟩
        generalize w5.setCells gP (q * (E32 n).k) ((E32 n).enc (s1, x1)) = w6 at *
        refine any_do (i := 25) (v := .int .i64 0) (w' := w6) (by kernel_rfl) rfl rfl (by go_simp) ⟨hGM.gs.box, ?_⟩
        refine wpAnyH_done (by kernel_rfl) ?_ _
        have HM : Hid (Gm W n b gP cP (k + 1) vW vD (L.set q (s1, x1)) Q dn (.slice none 0 0) [] w6) := hide hGM
        clear hGM hsd hS hS5 hGd hG5 hGA hA hnw hSA
        simp [Act.put]
        go_wp2_with fail
        go_meet
        case rel => exact ⟨rfl, rfl, rfl, hide ⟨_, by simp, unhide HM⟩⟩
      · refine any_twoV (i := 11) (j := 17) (vi := .agg (pc n s z)) (wi := wd.alloc (.cells #[.int .u8 ub1, .int .u8 ub2] 5)) (vj := .string (strOfNums [ub1, ub2])) (wj := wd.alloc (.cells #[.int .u8 ub1, .int .u8 ub2] 5)) (by kernel_rfl) (by exact rfl) (by exact rfl) (by exact rfl) (by exact rfl) (el_ld_run (E := E32 n) (.tmp 46) (by exact rfl) gP q (by show _ = Value.pointer (some ⟨gP, q * 18, none⟩); go_simp) hGA.gs.row (unhide HQL) Tryz.underlying56 (pc n s z) (by rw [unhide HSX]; rfl)) (two_run (.tmp 52) (by exact rfl) (by go_simp) hnw) ⟨hSA, ?_⟩ ⟨hSA, ?_⟩
        · refine any_do (i := 17) (v := .string (strOfNums [ub1, ub2])) (w' := wd.alloc (.cells #[.int .u8 ub1, .int .u8 ub2] 5)) (by kernel_rfl) rfl rfl (two_run (.tmp 52) (by exact rfl) (by go_simp) hnw) ⟨hSA, ?_⟩
          refine any_call (i := 18) (by kernel_rfl) rfl rfl (by go_simp) ((unhide HTk) _ hGA) ?_
          rintro e w5 ⟨x1, v5, rfl, hsd⟩
          have hG5 := hGA.next hsd.bel
          have hS5 : w5.heap[b]? = some (.cells (gc n gP cP vW vD) 51) := hG5.gs.box
          refine ⟨_, rfl, hS5, ?_⟩
          refine any_take (i := 19) (v := .tuple #[.agg (pc n s1 x1), v5, .int .i64 0]) rfl (by kernel_rfl) (by kernel_rfl) (by kernel_rfl) (fun _ _ _ h => h) rfl hS5 (fun w hw => by go_simp) ?_
          refine any_take (i := 20) (v := .agg (pc n s1 x1)) rfl (by kernel_rfl) (by kernel_rfl) (by kernel_rfl) (fun _ _ _ h => h) rfl hS5 (fun w hw => by go_simp) ?_
          refine any_take (i := 21) (v := v5) rfl (by kernel_rfl) (by kernel_rfl) (by kernel_rfl) (fun _ _ _ h => h) rfl hS5 (fun w hw => by go_simp) ?_
          refine any_take (i := 22) (v := .int .i64 0) rfl (by kernel_rfl) (by kernel_rfl) (by kernel_rfl) (fun _ _ _ h => h) rfl hS5 (fun w hw => by go_simp) ?_
          refine any_take (i := 23) (v := .pointer (some ⟨gP, q * 18, none⟩)) rfl (by kernel_rfl) (by kernel_rfl) (by kernel_rfl) (fun _ _ _ h => h) rfl hS5 (fun w hw => by go_simp) ?_
          have hGM := hGA.put hsd (hG5.gs.row.put q (unhide HQL) (s1, x1)) (ch_setCells _ _ _ _)
          refine any_skip (i := 24) (w' := w5.setCells gP (q * (E32 n).k) ((E32 n).enc (s1, x1))) (by kernel_rfl) rfl rfl (el_st_run (E := E32 n) (.tmp 58) (.tmp 55) (by exact rfl) gP q (by show _ = Value.pointer (some ⟨gP, q * 18, none⟩); go_simp) (pc n s1 x1) (by go_simp) (s1, x1) rfl hG5.gs.row (unhide HQL)) ⟨hGM.gs.box, ?_⟩
          generalize w5.setCells gP (q * (E32 n).k) ((E32 n).enc (s1, x1)) = w6 at *
          refine any_do (i := 25) (v := .int .i64 0) (w' := w6) (by kernel_rfl) rfl rfl (by go_simp) ⟨hGM.gs.box, ?_⟩
          refine wpAnyH_done (by kernel_rfl) ?_ _
          have HM : Hid (Gm W n b gP cP (k + 1) vW vD (L.set q (s1, x1)) Q dn (.slice none 0 0) [] w6) := hide hGM
          clear hGM hsd hS hS5 hGd hG5 hGA hA hnw hSA
          simp [Act.put]
          go_wp2_with fail
          go_meet
          case rel => exact ⟨rfl, rfl, rfl, hide ⟨_, by simp, unhide HM⟩⟩
        · refine any_do (i := 11) (v := .agg (pc n s z)) (w' := wd.alloc (.cells #[.int .u8 ub1, .int .u8 ub2] 5)) (by kernel_rfl) rfl rfl (el_ld_run (E := E32 n) (.tmp 46) (by exact rfl) gP q (by show _ = Value.pointer (some ⟨gP, q * 18, none⟩); go_simp) hGA.gs.row (unhide HQL) Tryz.underlying56 (pc n s z) (by rw [unhide HSX]; rfl)) ⟨hSA, ?_⟩
          refine any_call (i := 18) (by kernel_rfl) rfl rfl (by go_simp) ((unhide HTk) _ hGA) ?_
          rintro e w5 ⟨x1, v5, rfl, hsd⟩
          have hG5 := hGA.next hsd.bel
          have hS5 : w5.heap[b]? = some (.cells (gc n gP cP vW vD) 51) := hG5.gs.box
          refine ⟨_, rfl, hS5, ?_⟩
          refine any_take (i := 19) (v := .tuple #[.agg (pc n s1 x1), v5, .int .i64 0]) rfl (by kernel_rfl) (by kernel_rfl) (by kernel_rfl) (fun _ _ _ h => h) rfl hS5 (fun w hw => by go_simp) ?_
          refine any_take (i := 20) (v := .agg (pc n s1 x1)) rfl (by kernel_rfl) (by kernel_rfl) (by kernel_rfl) (fun _ _ _ h => h) rfl hS5 (fun w hw => by go_simp) ?_
          refine any_take (i := 21) (v := v5) rfl (by kernel_rfl) (by kernel_rfl) (by kernel_rfl) (fun _ _ _ h => h) rfl hS5 (fun w hw => by go_simp) ?_
          refine any_take (i := 22) (v := .int .i64 0) rfl (by kernel_rfl) (by kernel_rfl) (by kernel_rfl) (fun _ _ _ h => h) rfl hS5 (fun w hw => by go_simp) ?_
          refine any_take (i := 23) (v := .pointer (some ⟨gP, q * 18, none⟩)) rfl (by kernel_rfl) (by kernel_rfl) (by kernel_rfl) (fun _ _ _ h => h) rfl hS5 (fun w hw => by go_simp) ?_
          have hGM := hGA.put hsd (hG5.gs.row.put q (unhide HQL) (s1, x1)) (ch_setCells _ _ _ _)
          refine any_skip (i := 24) (w' := w5.setCells gP (q * (E32 n).k) ((E32 n).enc (s1, x1))) (by kernel_rfl) rfl rfl (el_st_run (E := E32 n) (.tmp 58) (.tmp 55) (by exact rfl) gP q (by show _ = Value.pointer (some ⟨gP, q * 18, none⟩); go_simp) (pc n s1 x1) (by go_simp) (s1, x1) rfl hG5.gs.row (unhide HQL)) ⟨hGM.gs.box, ?_⟩
          generalize w5.setCells gP (q * (E32 n).k) ((E32 n).enc (s1, x1)) = w6 at *
          refine any_do (i := 25) (v := .int .i64 0) (w' := w6) (by kernel_rfl) rfl rfl (by go_simp) ⟨hGM.gs.box, ?_⟩
          refine wpAnyH_done (by kernel_rfl) ?_ _
          have HM : Hid (Gm W n b gP cP (k + 1) vW vD (L.set q (s1, x1)) Q dn (.slice none 0 0) [] w6) := hide hGM
          clear hGM hsd hS hS5 hGd hG5 hGA hA hnw hSA
          simp [Act.put]
          go_wp2_with fail
          go_meet
          case rel => exact ⟨rfl, rfl, rfl, hide ⟨_, by simp, unhide HM⟩⟩
    · have er : (s.role == 2) = false := by simp [hr]
      clear hr
      go_wp2_with fail
      go_meet
      case rel => exact ⟨rfl, rfl, rfl, hide ⟨_, rfl, (unhide HV).idle⟩⟩
  case rest =>
    obtain ⟨rfl, rfl, rfl, hcut2⟩ := hcut
    obtain ⟨L1, hL1, hM⟩ := unhide hcut2
    have HM := hide hM
    have HL1 := hide hL1
    clear hM hL1 hcut2 c0 c2
    obtain ⟨O, hO0⟩ : ∃ O : List (QM × Option Addr × Nat), O = [] := ⟨_, rfl⟩
    rw [← hO0] at HM
    clear hO0
    have HQ2 : Hid (q < (L1).length) := hide (by rw [unhide HL1]; exact unhide HQL)
    have HWL : Hid ((Q).length ≤ 300) := hide (unhide HM).ql
    have HBS := hide (unhide HM).gs.bel.size
    obtain ⟨aW2, cW2, gW2, eW2, _, _, _⟩ := (unhide HM).gs.wo.shape
    subst eW2
    have y1 := (unhide HM).gs.c1
    by_cases hl : (Q).length < 150
    · have hli : ((Q).length : Int) < 150 := by omega
      go_wp2_with (first
        | (at_builtin; with_reducible refine elq_app (unhide HM).gs.wo (unhide HBS) (unhide HM).oo (unhide HM).ol (unhide HWL) (.tmp 191) (.tmp 192) ?_ ?_ ?_ ?_ ?_; exact rfl; exact rfl; (first | exact rfl | simp [Act.eval]); (first | exact rfl | simp [Act.eval]); intro a8 c8 w8 ho8 hg8; have HJ := hide (And.intro ho8 hg8); have HBX := hide (row_grown (unhide HM).gs.box (unhide HM).gs.wo hg8 (by decide)); have y1 : w8.cell? ⟨b, 1, none⟩ = some (.slice aW2 (Q).length cW2) := (cell_of (unhide HBX)).trans rfl; have f1 : w8.frozen? ⟨b, 1, none⟩ = false := free_row (unhide HBX); clear ho8 hg8)
        | (go_at_call 45; have HK := hide ((unhide HM).join hl (unhide HJ).1 (unhide HJ).2 (w2 := w8.setCell ⟨b, 1, none⟩ (.slice a8 ((Q).length + O.length) c8)) (row_set (unhide HBX)) (Ch.set (ad := ⟨b, 1, none⟩) (Ch.refl (fun j => j = b) w8) (Or.inl rfl) _)); refine (holds_any (unhide HK).gs (unhide HK).al hn64 hk9 (unhide HQ2)).mono ?_; rintro e wz ⟨rfl, vD9, hgz⟩; have HF := hide ((unhide HK).held (unhide HQ2) hgz); clear hgz))
      go_ret
      exact ⟨_, rfl, _, _, _, _, _, unhide HF, rfl⟩
    · have hli : ¬ (((Q).length : Int) < 150) := by omega
      have HK := hide (unhide HM).skip
      go_wp2_with (first
        | (go_at_call 45; refine (holds_any (unhide HK).gs (unhide HK).al hn64 hk9 (unhide HQ2)).mono ?_; rintro e wz ⟨rfl, vD9, hgz⟩; have HF := hide ((unhide HK).held (unhide HQ2) hgz); clear hgz))
      go_ret
      exact ⟨_, rfl, _, _, _, _, _, unhide HF, rfl⟩
end Go.Proofs.YthipgcojbhcdgaaGreat
