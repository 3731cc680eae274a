/- The law's step: a log is cut. The law's step: a member crashes. The law's step, whatever is to be done. What a look at a member of the group needs. -/
import Derived.Test.YthekbhliokcpcaaGreatT37
import Derived.Deep.DeepCutAuto
import Derived.Deep.CutBlock
import Derived.Laws.BytesArg
import Derived.Test.YthekbhliokcpcaaGreatT35
import Derived.Test.YthekbhliokcpcaaGreatT36
import Derived.Test.YthekbhliokcpcaaGreatT34
namespace Go.Proofs.YthekbhliokcpcaaGreat
open Go.RowKit Go.Maps Go.Sort
set_option maxRecDepth 100000 in
set_option maxHeartbeats 16000000 in
theorem step_4 {σ : Nat → ByteArray} {W w : World} {n b gP cP bM k km : Nat} {vW vD : Value} {L : List (GP × Px)} {Q : List (GM × GX)} {D : List (GE × GA)} {ld : Int → Int} {M : List (PP × Nat)} {gw : List QM} {dn : List PE} (h : Gk σ W n b gP cP bM k km vW vD L Q D ld M gw dn w) (hn1 : 1 ≤ n) (hn64 : n ≤ 64) (hk : k ≤ 70000) (hσ : σ 0 = ⟨#[]⟩) (A : Act4) (iz : Int) (ma mn : Nat) (hma : bits .and .i64 A.a 65535 = (ma : Int)) (hmn : bits .and .i64 A.n 65535 = (mn : Int)) (hσ2 : ∀ t : Nat, 1 ≤ t → σ t = strOfNums [IntKind.u8.wrap (t : Int)]) (hop : A.op = 4) : Calls Tryz.prog 13 #[.pointer (some ⟨b, 0, none⟩), .agg (ac A), .int .i64 iz] w (StR σ W n b gP cP bM (k + 1)) := by
 have hln := h.len.2
 obtain ⟨q, hqe⟩ : ∃ q : Nat, q = ma % n := ⟨_, rfl⟩
 have hqn : q < n := by rw [hqe]; exact Nat.mod_lt _ (by omega)
 have hqt : (ma : Int).tmod (n : Int) = (q : Int) := by rw [Int.tmod_eq_emod_of_nonneg (by omega)]; omega
 have hqt' : (ma : Int) % (n : Int) = (q : Int) := by omega
 have hn0 : ((n : Int) == 0) = false := beq_eq_false_iff_ne.2 (by omega)
 have hql : q < L.length := by omega
 have hkk := h.kk
 obtain ⟨p, c, x, hsx, hmq⟩ := rl_inj_at h.hM hql
 have HG := jd h
 have HQL : Hid (q < L.length) := jd hql
 have HSX := jd hsx
 have hpc : p.commit ≤ 80000 := by
  obtain ⟨_, _, _, h4, _⟩ := h.at hn64 (by omega) hσ hql hsx hmq
  have h5 := h4.com
  have h6 := h4.glen
  omega
 have hmn9 : 0 ≤ (mn : Int) ∧ (mn : Int) ≤ 9223372036854775807 := by
  obtain ⟨k9, h9, h10⟩ := i64_mask A.n 65535 (by decide)
  have : (mn : Int) = (k9 : Int) := by rw [← hmn]; exact h10
  omega
 have HTk : Hid (∀ t : Nat, c < t ∧ t ≤ p.commit → ∀ w', Gk σ W n b gP cP bM k km vW vD L Q D ld M gw dn w' → Calls Tryz.prog 29 #[.agg (gc (rl n σ p c) x), .int .u64 (t : Int), .string (strOfNums [IntKind.u8.wrap (t : Int)])] w' fun e w2 => ∃ p1 b1 x1, e = .returned (.tuple #[.agg (gc (rl n σ p1 b1) x1), .int .i64 0]) ∧ Sdk σ n k q ld M gw dn w' p1 b1 x1 (.slice none 0 0) [] w2) := jd (fun t ht w' hw' => cut_sd hw' hn64 (by omega) hσ hql hsx hmq t _ (by show (1 : Nat) ≤ 1044480; decide) ht (hσ2 t (by omega)).symm)
 have hcs : (rl n σ p c).commit = (p.commit : Int) := rfl
 have hbs : (rl n σ p c).base = (c : Int) := rfl
 obtain ⟨s, hs⟩ : ∃ s, s = rl n σ p c := ⟨_, rfl⟩
 rw [← hs] at HSX HTk hcs hbs
 clear h hsx hmq hqe hs hσ2
 go_enter Tryz.func13, Tryz.ntmps13
 go_wp2_with (first
  | (refine bx_boxH 45 (.tmp 1) (by exact rfl) (by exact rfl) (ac A) (by exact rfl) ?_; intro b4 w0 hr0 hs0 hb0; have HV := jd ((ju HG).next hb0); have HR4 := jd hr0; have c1 : w0.cell? ⟨b4, 1, none⟩ = some (.int .i64 A.a) := (cell_of hr0).trans rfl; have y0 := (ju HV).gs.c0; clear hr0 hs0 hb0 HG))
 go_quiet (fail)
 have hb1 := (Bel.refl w0).drewN nq
 replace HV := jd ((ju HV).next hb1)
 replace HR4 := jd (hb1.row (ju HR4))
 clear hb1 c1 y0
 generalize w0.drewN nq = w1 at *
 have c0 : w1.cell? ⟨b4, 0, none⟩ = some (.int .i64 A.op) := (cell_of (ju HR4)).trans rfl
 have c2 : w1.cell? ⟨b4, 2, none⟩ = some (.int .i64 A.n) := (cell_of (ju HR4)).trans rfl
 rw [hop] at c0
 go_upto_block 0 with fail
 go_cut [7, 9, 10] (fun v7 v9 v10 wx => ∃ (q1 : Nat) (aO : Option Addr) (cO : Nat) (O : List (GM × GX)), v7 = .int .i64 (q1 : Int) ∧ v9 = .slice aO O.length cO ∧ v10 = .int .i64 0 ∧ Hid (∃ vW1 Q1 L1 M1 gw1, L1.length = n ∧ q1 < n ∧ Gmk σ W n b gP cP bM (k + 1) km q1 vW1 vD L1 Q1 D ld M1 gw1 dn (.slice aO O.length cO) O wx))
 case first =>
  have y0 := (ju HV).gs.c0
  have y11 := (ju HV).gs.at (ju HQL) (ju HSX) 11 (.int .u64 s.commit) rfl
  have y6 := (ju HV).gs.at (ju HQL) (ju HSX) 6 (.int .u64 s.base) rfl
  rw [hcs] at y11
  rw [hbs] at y6
  by_cases hr : c < p.commit
  ·have hri : (c : Int) < (p.commit : Int) := by omega
   obtain ⟨d, hd⟩ : ∃ d : Nat, d = p.commit - c := ⟨_, rfl⟩
   obtain ⟨r, hr9⟩ : ∃ r : Nat, r = mn % d := ⟨_, rfl⟩
   have hrd : r < d := by rw [hr9]; exact Nat.mod_lt _ (by omega)
   obtain ⟨tt, hto⟩ : ∃ tt : Nat, tt = c + 1 + r := ⟨_, rfl⟩
   have hto2 : c < tt ∧ tt ≤ p.commit := by omega
   have w1e : IntKind.u64.wrap ((c : Int) + 1) = (c : Int) + 1 := by rw [IntKind.wrap_u64]; omega
   have w2e : IntKind.u64.wrap (mn : Int) = (mn : Int) := by rw [IntKind.wrap_u64]; omega
   have w3e : IntKind.u64.wrap ((p.commit : Int) - (c : Int)) = (d : Int) := by rw [IntKind.wrap_u64]; omega
   have w4e : (mn : Int).tmod (d : Int) = (r : Int) := by rw [Int.tmod_eq_emod_of_nonneg (by omega)]; omega
   have w5e : (mn : Int) % (d : Int) = (r : Int) := by omega
   have w6e : IntKind.u64.wrap ((c : Int) + 1 + (r : Int)) = (tt : Int) := by rw [IntKind.wrap_u64]; omega
   have w7e : ((d : Int) == 0) = false := beq_eq_false_iff_ne.2 (by omega)
   have w3f : (p.commit : Int) - (c : Int) = (d : Int) := by omega
   have w8e : (c : Int) + 1 + (r : Int) = (tt : Int) := by omega
   have w9a : IntKind.u64.wrap (d : Int) = (d : Int) := by rw [IntKind.wrap_u64]; omega
   have w9b : IntKind.u64.wrap (r : Int) = (r : Int) := by rw [IntKind.wrap_u64]; omega
   have w9c : IntKind.u64.wrap (tt : Int) = (tt : Int) := by rw [IntKind.wrap_u64]; omega
   have HTO := jd hto2
   clear hr hd hr9 hrd hto hto2 hpc
   go_wp2_with fail
   go_quiet (fail)
   have hb1 := (Bel.refl w1).drewN nq
   replace HV := jd ((ju HV).next hb1)
   clear hb1 y0 y11 y6 c0 c2
   generalize w1.drewN nq = w2 at *
   have y0 := (ju HV).gs.c0
   have y11 := (ju HV).gs.at (ju HQL) (ju HSX) 11 (.int .u64 s.commit) rfl
   have y6 := (ju HV).gs.at (ju HQL) (ju HSX) 6 (.int .u64 s.base) rfl
   rw [hcs] at y11
   rw [hbs] at y6
   go_wp2_with fail
   go_quiet (fail)
   have hb1 := (Bel.refl w2).drewN nq
   replace HV := jd ((ju HV).next hb1)
   clear hb1 y0 y11 y6
   generalize w2.drewN nq = w3 at *
   go_wp2_with fail
   obtain ⟨ub, hub⟩ : ∃ u, u = IntKind.u8.wrap (tt : Int) := ⟨_, rfl⟩
   replace HTk := jd ((ju HTk) tt (ju HTO))
   rw [← hub] at HTk
   clear w1e w2e w3e w4e w5e w6e w7e w3f w8e w9a w9b w9c hri hcs hbs HTO
   have hGd := (ju HV).next (Bel.refl w3).drew
   refine wp_region_held_drew (S := fun w => w.heap[b]? = some (.cells (grp n gP cP bM vW vD) 50)) Tryz.follows hGd.gs.box (fun hS => ?_)
   generalize w3.drew = wd at *
   refine any_take (i := 0) (v := .pointer (some ⟨b, 0, none⟩)) rfl (by kernel_rfl) (fun _ _ _ h => h) rfl hS (fun w hw => by go_simp) ?_
   refine any_take (i := 1) (v := .pointer (some ⟨b, 0, none⟩)) rfl (by kernel_rfl) (fun _ _ _ h => h) rfl hS (fun w hw => by go_simp) ?_
   refine any_take (i := 2) (v := .pointer (some ⟨b, 0, none⟩)) rfl (by kernel_rfl) (fun _ _ _ h => h) rfl hS (fun w hw => by go_simp) ?_
   refine any_take (i := 3) (v := .slice (some ⟨gP, 0, none⟩) n cP) rfl (by kernel_rfl) (fun _ _ _ h => h) rfl hS (fun w hw => by have := (cell_of hw : w.cell? ⟨b, 0, none⟩ = _); change w.cell? ⟨b, 0, none⟩ = some (.slice (some ⟨gP, 0, none⟩) n cP) at this; go_simp) ?_
   refine any_take (i := 4) (v := .int .i64 (q : Int)) rfl (by kernel_rfl) (fun _ _ _ h => h) rfl hS (fun w hw => by go_simp) ?_
   refine any_take (i := 5) (v := .pointer (some ⟨b, 0, none⟩)) rfl (by kernel_rfl) (fun _ _ _ h => h) rfl hS (fun w hw => by go_simp) ?_
   refine any_take (i := 6) (v := .pointer (some ⟨b, 0, none⟩)) rfl (by kernel_rfl) (fun _ _ _ h => h) rfl hS (fun w hw => by go_simp) ?_
   refine any_take (i := 7) (v := .pointer (some ⟨b, 0, none⟩)) rfl (by kernel_rfl) (fun _ _ _ h => h) rfl hS (fun w hw => by go_simp) ?_
   refine any_take (i := 8) (v := .slice (some ⟨gP, 0, none⟩) n cP) rfl (by kernel_rfl) (fun _ _ _ h => h) rfl hS (fun w hw => by have := (cell_of hw : w.cell? ⟨b, 0, none⟩ = _); change w.cell? ⟨b, 0, none⟩ = some (.slice (some ⟨gP, 0, none⟩) n cP) at this; go_simp) ?_
   refine any_take (i := 9) (v := .int .i64 (q : Int)) rfl (by kernel_rfl) (fun _ _ _ h => h) rfl hS (fun w hw => by go_simp) ?_
   refine any_take (i := 10) (v := .pointer (some ⟨gP, q * 18, none⟩)) rfl (by kernel_rfl) (fun _ _ _ h => h) rfl hS (fun w hw => by go_simp) ?_
   refine any_take (i := 12) (v := .int .u64 (tt : Int)) rfl (by kernel_rfl) (fun _ _ _ h => h) rfl hS (fun w hw => by go_simp) ?_
   refine any_take (i := 13) (v := .int .u64 (tt : Int)) rfl (by kernel_rfl) (fun _ _ _ h => h) rfl hS (fun w hw => by go_simp) ?_
   refine any_take (i := 14) (v := .int .u8 ub) rfl (by kernel_rfl) (fun _ _ _ h => h) rfl hS (fun w hw => by rw [hub]; go_simp) ?_
   have hA := (Bel.refl wd).alloc (.cells #[.int .u8 ub] 5)
   have hGA := hGd.next hA
   have hnw := at_new wd (.cells #[.int .u8 ub] 5)
   have hSA : (wd.alloc (.cells #[.int .u8 ub] 5)).heap[b]? = some (.cells (grp n gP cP bM vW vD) 50) := hGA.gs.box
   refine any_vv (i := 11) (j := 15) (vi := .agg (gc s x)) (wi := wd) (vj := .slice (some ⟨wd.heap.size, 0, none⟩) 1 1) (wj := wd.alloc (.cells #[.int .u8 ub] 5)) (by kernel_rfl) (by exact rfl) (by exact rfl) (by exact rfl) (by exact rfl) (el_ld_run (E := EPg) (.tmp 215) (by exact rfl) gP q (by show _ = Value.pointer (some ⟨gP, q * 18, none⟩); go_simp) hGd.gs.row (ju HQL) Tryz.underlying31 (gc s x) (by rw [ju HSX]; rfl)) (by go_simp) ⟨hS, ?_⟩ ⟨hSA, ?_⟩
   ·refine any_do (i := 15) (v := .slice (some ⟨wd.heap.size, 0, none⟩) 1 1) (w' := wd.alloc (.cells #[.int .u8 ub] 5)) (by kernel_rfl) rfl rfl (by go_simp) ⟨hSA, ?_⟩
    refine any_do (i := 16) (v := .string (strOfNums [ub])) (w' := wd.alloc (.cells #[.int .u8 ub] 5)) (by kernel_rfl) rfl rfl (one_byte (.tmp 220) (by exact rfl) (by go_simp) hnw) ⟨hSA, ?_⟩
    refine any_call (i := 17) (by kernel_rfl) rfl rfl (by go_simp) ((ju HTk) _ hGA) ?_
    rintro e w5 ⟨p1, b1, x1, rfl, hsd⟩
    have hG5 := hGA.next hsd.bel
    have hS5 : w5.heap[b]? = some (.cells (grp n gP cP bM vW vD) 50) := hG5.gs.box
    refine ⟨_, rfl, hS5, ?_⟩
    refine any_take (i := 18) (v := .tuple #[.agg (gc (rl n σ p1 b1) x1), .int .i64 0]) rfl (by kernel_rfl) (fun _ _ _ h => h) rfl hS5 (fun w hw => by go_simp) ?_
    refine any_take (i := 19) (v := .agg (gc (rl n σ p1 b1) x1)) rfl (by kernel_rfl) (fun _ _ _ h => h) rfl hS5 (fun w hw => by go_simp) ?_
    refine any_take (i := 20) (v := .int .i64 0) rfl (by kernel_rfl) (fun _ _ _ h => h) rfl hS5 (fun w hw => by go_simp) ?_
    refine any_take (i := 21) (v := .pointer (some ⟨gP, q * 18, none⟩)) rfl (by kernel_rfl) (fun _ _ _ h => h) rfl hS5 (fun w hw => by go_simp) ?_
    obtain ⟨gw', hGM⟩ := hGA.put (ju HQL) hsd (hG5.gs.row.put q (ju HQL) (rl n σ p1 b1, x1)) (ch_setCells _ _ _ _)
    refine any_skip (i := 22) (w' := w5.setCells gP (q * EPg.k) (EPg.enc (rl n σ p1 b1, x1))) (by kernel_rfl) rfl rfl (el_st_run (E := EPg) (.tmp 225) (.tmp 223) (by exact rfl) gP q (by show _ = Value.pointer (some ⟨gP, q * 18, none⟩); go_simp) (gc (rl n σ p1 b1) x1) (by go_simp) (rl n σ p1 b1, x1) rfl hG5.gs.row (ju HQL)) ⟨hGM.gs.box, ?_⟩
    have hS6 : (w5.setCells gP (q * EPg.k) (EPg.enc (rl n σ p1 b1, x1))).heap[b]? = some (.cells (grp n gP cP bM vW vD) 50) := hGM.gs.box
    generalize w5.setCells gP (q * EPg.k) (EPg.enc (rl n σ p1 b1, x1)) = w6 at *
    refine any_do (i := 23) (v := .int .i64 0) (w' := w6) (by kernel_rfl) rfl rfl (by go_simp) ⟨hS6, ?_⟩
    refine wpAnyH_done (by kernel_rfl) ?_ _
    have HM := jd hGM
    clear hGM hsd hS hS5 hS6 hGd hG5 hGA hA hnw hSA
    simp [Act.put]
    go_wp2_with fail
    go_meet
    case rel => exact ⟨q, none, 0, [], rfl, rfl, rfl, jd ⟨vW, Q, _, _, gw', by simpa using hln, hqn, ju HM⟩⟩
   ·refine any_vv (i := 11) (j := 16) (vi := .agg (gc s x)) (wi := wd.alloc (.cells #[.int .u8 ub] 5)) (vj := .string (strOfNums [ub])) (wj := wd.alloc (.cells #[.int .u8 ub] 5)) (by kernel_rfl) (by exact rfl) (by exact rfl) (by exact rfl) (by exact rfl) (el_ld_run (E := EPg) (.tmp 215) (by exact rfl) gP q (by show _ = Value.pointer (some ⟨gP, q * 18, none⟩); go_simp) hGA.gs.row (ju HQL) Tryz.underlying31 (gc s x) (by rw [ju HSX]; rfl)) (one_byte (.tmp 220) (by exact rfl) (by go_simp) hnw) ⟨hSA, ?_⟩ ⟨hSA, ?_⟩
    ·refine any_do (i := 16) (v := .string (strOfNums [ub])) (w' := wd.alloc (.cells #[.int .u8 ub] 5)) (by kernel_rfl) rfl rfl (one_byte (.tmp 220) (by exact rfl) (by go_simp) hnw) ⟨hSA, ?_⟩
     refine any_call (i := 17) (by kernel_rfl) rfl rfl (by go_simp) ((ju HTk) _ hGA) ?_
     rintro e w5 ⟨p1, b1, x1, rfl, hsd⟩
     have hG5 := hGA.next hsd.bel
     have hS5 : w5.heap[b]? = some (.cells (grp n gP cP bM vW vD) 50) := hG5.gs.box
     refine ⟨_, rfl, hS5, ?_⟩
     refine any_take (i := 18) (v := .tuple #[.agg (gc (rl n σ p1 b1) x1), .int .i64 0]) rfl (by kernel_rfl) (fun _ _ _ h => h) rfl hS5 (fun w hw => by go_simp) ?_
     refine any_take (i := 19) (v := .agg (gc (rl n σ p1 b1) x1)) rfl (by kernel_rfl) (fun _ _ _ h => h) rfl hS5 (fun w hw => by go_simp) ?_
     refine any_take (i := 20) (v := .int .i64 0) rfl (by kernel_rfl) (fun _ _ _ h => h) rfl hS5 (fun w hw => by go_simp) ?_
     refine any_take (i := 21) (v := .pointer (some ⟨gP, q * 18, none⟩)) rfl (by kernel_rfl) (fun _ _ _ h => h) rfl hS5 (fun w hw => by go_simp) ?_
     obtain ⟨gw', hGM⟩ := hGA.put (ju HQL) hsd (hG5.gs.row.put q (ju HQL) (rl n σ p1 b1, x1)) (ch_setCells _ _ _ _)
     refine any_skip (i := 22) (w' := w5.setCells gP (q * EPg.k) (EPg.enc (rl n σ p1 b1, x1))) (by kernel_rfl) rfl rfl (el_st_run (E := EPg) (.tmp 225) (.tmp 223) (by exact rfl) gP q (by show _ = Value.pointer (some ⟨gP, q * 18, none⟩); go_simp) (gc (rl n σ p1 b1) x1) (by go_simp) (rl n σ p1 b1, x1) rfl hG5.gs.row (ju HQL)) ⟨hGM.gs.box, ?_⟩
     have hS6 : (w5.setCells gP (q * EPg.k) (EPg.enc (rl n σ p1 b1, x1))).heap[b]? = some (.cells (grp n gP cP bM vW vD) 50) := hGM.gs.box
     generalize w5.setCells gP (q * EPg.k) (EPg.enc (rl n σ p1 b1, x1)) = w6 at *
     refine any_do (i := 23) (v := .int .i64 0) (w' := w6) (by kernel_rfl) rfl rfl (by go_simp) ⟨hS6, ?_⟩
     refine wpAnyH_done (by kernel_rfl) ?_ _
     have HM := jd hGM
     clear hGM hsd hS hS5 hS6 hGd hG5 hGA hA hnw hSA
     simp [Act.put]
     go_wp2_with fail
     go_meet
     case rel => exact ⟨q, none, 0, [], rfl, rfl, rfl, jd ⟨vW, Q, _, _, gw', by simpa using hln, hqn, ju HM⟩⟩
    ·refine any_do (i := 11) (v := .agg (gc s x)) (w' := wd.alloc (.cells #[.int .u8 ub] 5)) (by kernel_rfl) rfl rfl (el_ld_run (E := EPg) (.tmp 215) (by exact rfl) gP q (by show _ = Value.pointer (some ⟨gP, q * 18, none⟩); go_simp) hGA.gs.row (ju HQL) Tryz.underlying31 (gc s x) (by rw [ju HSX]; rfl)) ⟨hSA, ?_⟩
     refine any_call (i := 17) (by kernel_rfl) rfl rfl (by go_simp) ((ju HTk) _ hGA) ?_
     rintro e w5 ⟨p1, b1, x1, rfl, hsd⟩
     have hG5 := hGA.next hsd.bel
     have hS5 : w5.heap[b]? = some (.cells (grp n gP cP bM vW vD) 50) := hG5.gs.box
     refine ⟨_, rfl, hS5, ?_⟩
     refine any_take (i := 18) (v := .tuple #[.agg (gc (rl n σ p1 b1) x1), .int .i64 0]) rfl (by kernel_rfl) (fun _ _ _ h => h) rfl hS5 (fun w hw => by go_simp) ?_
     refine any_take (i := 19) (v := .agg (gc (rl n σ p1 b1) x1)) rfl (by kernel_rfl) (fun _ _ _ h => h) rfl hS5 (fun w hw => by go_simp) ?_
     refine any_take (i := 20) (v := .int .i64 0) rfl (by kernel_rfl) (fun _ _ _ h => h) rfl hS5 (fun w hw => by go_simp) ?_
     refine any_take (i := 21) (v := .pointer (some ⟨gP, q * 18, none⟩)) rfl (by kernel_rfl) (fun _ _ _ h => h) rfl hS5 (fun w hw => by go_simp) ?_
     obtain ⟨gw', hGM⟩ := hGA.put (ju HQL) hsd (hG5.gs.row.put q (ju HQL) (rl n σ p1 b1, x1)) (ch_setCells _ _ _ _)
     refine any_skip (i := 22) (w' := w5.setCells gP (q * EPg.k) (EPg.enc (rl n σ p1 b1, x1))) (by kernel_rfl) rfl rfl (el_st_run (E := EPg) (.tmp 225) (.tmp 223) (by exact rfl) gP q (by show _ = Value.pointer (some ⟨gP, q * 18, none⟩); go_simp) (gc (rl n σ p1 b1) x1) (by go_simp) (rl n σ p1 b1, x1) rfl hG5.gs.row (ju HQL)) ⟨hGM.gs.box, ?_⟩
     have hS6 : (w5.setCells gP (q * EPg.k) (EPg.enc (rl n σ p1 b1, x1))).heap[b]? = some (.cells (grp n gP cP bM vW vD) 50) := hGM.gs.box
     generalize w5.setCells gP (q * EPg.k) (EPg.enc (rl n σ p1 b1, x1)) = w6 at *
     refine any_do (i := 23) (v := .int .i64 0) (w' := w6) (by kernel_rfl) rfl rfl (by go_simp) ⟨hS6, ?_⟩
     refine wpAnyH_done (by kernel_rfl) ?_ _
     have HM := jd hGM
     clear hGM hsd hS hS5 hS6 hGd hG5 hGA hA hnw hSA
     simp [Act.put]
     go_wp2_with fail
     go_meet
     case rel => exact ⟨q, none, 0, [], rfl, rfl, rfl, jd ⟨vW, Q, _, _, gw', by simpa using hln, hqn, ju HM⟩⟩
  ·have hri : ¬ (c : Int) < (p.commit : Int) := by omega
   clear hr
   go_wp2_with fail
   go_quiet (fail)
   have hb1 := (Bel.refl w1).drewN nq
   replace HV := jd ((ju HV).next hb1)
   clear hb1 y0 y11 y6 c0 c2
   generalize w1.drewN nq = w2 at *
   go_wp2_with fail
   go_meet
   case rel => exact ⟨q, none, 0, [], rfl, rfl, rfl, jd ⟨vW, Q, L, M, gw, hln, hqn, (ju HV).idle q⟩⟩
 case rest =>
  obtain ⟨q1, aO, cO, O, rfl, rfl, rfl, hcut2⟩ := hcut
  obtain ⟨vW1, Q1, L1, M1, gw1, hL1, hq1, hM⟩ := ju hcut2
  have HM := jd hM
  clear hM hcut2 c0 c2
  have HQ2 : Hid (q1 < L1.length) := jd (by omega)
  have HWL : Hid (Q1.length ≤ 300) := jd (ju HM).ql
  have HBS := jd (ju HM).gs.bel.size
  obtain ⟨aW2, cW2, gW2, eW2, _, _, _⟩ := (ju HM).gs.wo.shape
  subst eW2
  have y1 := (ju HM).gs.c1
  by_cases hl : Q1.length < 150
  ·have hli : (Q1.length : Int) < 150 := by omega
   go_wp2_with (first
    | (at_builtin; with_reducible refine elq_app (ju HM).gs.wo (ju HBS) (ju HM).oo (ju HM).ol (ju HWL) (.tmp 252) (.tmp 253) ?_ ?_ ?_ ?_ ?_; exact rfl; exact rfl; (first | exact rfl | simp [Act.eval]); (first | exact rfl | simp [Act.eval]); intro a8 c8 w8 ho8 hg8; have HJ := jd (aI ho8 hg8); have HBX := jd (row_grown (ju HM).gs.box (ju HM).gs.wo hg8 (by decide)); have y1 : w8.cell? ⟨b, 1, none⟩ = some (.slice aW2 Q1.length cW2) := (cell_of (ju HBX)).trans rfl; have f1 : w8.frozen? ⟨b, 1, none⟩ = false := free_row (ju HBX); clear ho8 hg8)
    | (go_at_call 33; have HK := jd ((ju HM).join hl (ju HJ).1 (ju HJ).2 (w2 := w8.setCell ⟨b, 1, none⟩ (.slice a8 (Q1.length + O.length) c8)) (row_set (ju HBX)) (Ch.set (ad := ⟨b, 1, none⟩) (Ch.refl (fun j => j = b) w8) (Or.inl rfl) _)); refine ((ju HK).held (by omega) (by omega) hn64 (by omega) (ju HQ2)).mono ?_; rintro e wz ⟨rfl, hgz⟩; have HF := jd hgz; clear hgz))
   go_ret
   obtain ⟨vD', D', ld', km', dn', hf⟩ := ju HF
   exact ⟨rfl, _, _, _, _, _, _, _, _, _, _, hf⟩
  ·have hli : ¬ ((Q1.length : Int) < 150) := by omega
   have HK := jd (ju HM).skip
   go_wp2_with (first
    | (go_at_call 33; refine ((ju HK).held (by omega) (by omega) hn64 (by omega) (ju HQ2)).mono ?_; rintro e wz ⟨rfl, hgz⟩; have HF := jd hgz; clear hgz))
   go_ret
   obtain ⟨vD', D', ld', km', dn', hf⟩ := ju HF
   exact ⟨rfl, _, _, _, _, _, _, _, _, _, _, hf⟩
set_option maxRecDepth 100000 in
set_option maxHeartbeats 16000000 in
theorem step_8 {σ : Nat → ByteArray} {W w : World} {n b gP cP bM k km : Nat} {vW vD : Value} {L : List (GP × Px)} {Q : List (GM × GX)} {D : List (GE × GA)} {ld : Int → Int} {M : List (PP × Nat)} {gw : List QM} {dn : List PE} (h : Gk σ W n b gP cP bM k km vW vD L Q D ld M gw dn w) (hn1 : 1 ≤ n) (hn64 : n ≤ 64) (hk : k ≤ 70000) (hσ : σ 0 = ⟨#[]⟩) (A : Act4) (iz : Int) (ma mn : Nat) (hma : bits .and .i64 A.a 65535 = (ma : Int)) (hmn : bits .and .i64 A.n 65535 = (mn : Int)) (hop : A.op = 8) : Calls Tryz.prog 13 #[.pointer (some ⟨b, 0, none⟩), .agg (ac A), .int .i64 iz] w (StR σ W n b gP cP bM (k + 1)) := by
 have hln := h.len.2
 obtain ⟨q, hqe⟩ : ∃ q : Nat, q = ma % n := ⟨_, rfl⟩
 have hqn : q < n := by rw [hqe]; exact Nat.mod_lt _ (by omega)
 have hqt : (ma : Int).tmod (n : Int) = (q : Int) := by rw [Int.tmod_eq_emod_of_nonneg (by omega)]; omega
 have hqt' : (ma : Int) % (n : Int) = (q : Int) := by omega
 have hn0 : ((n : Int) == 0) = false := beq_eq_false_iff_ne.2 (by omega)
 have hql : q < L.length := by omega
 have hkk := h.kk
 obtain ⟨p, c, x, hsx, hmq⟩ := rl_inj_at h.hM hql
 have HG := jd h
 have HQL : Hid (q < L.length) := jd hql
 have HSX := jd hsx
 have HTk : Hid (∀ w', Gk σ W n b gP cP bM k km vW vD L Q D ld M gw dn w' → Calls Tryz.prog 31 #[.agg (gc (rl n σ p c) x)] w' fun e w2 => ∃ p1 b1 x1, e = .returned (.agg (gc (rl n σ p1 b1) x1)) ∧ Sdk σ n k q ld M gw dn w' p1 b1 x1 (.slice none 0 0) [] w2) := jd (fun w' hw' => kept_sd hw' hn64 (by omega) hσ hql hsx hmq)
 obtain ⟨s, hs⟩ : ∃ s, s = rl n σ p c := ⟨_, rfl⟩
 rw [← hs] at HSX HTk
 clear h hsx hmq hqe hs
 go_enter Tryz.func13, Tryz.ntmps13
 go_wp2_with (first
  | (refine bx_boxH 45 (.tmp 1) (by exact rfl) (by exact rfl) (ac A) (by exact rfl) ?_; intro b4 w0 hr0 hs0 hb0; have HV := jd ((ju HG).next hb0); have HR4 := jd hr0; have c1 : w0.cell? ⟨b4, 1, none⟩ = some (.int .i64 A.a) := (cell_of hr0).trans rfl; have y0 := (ju HV).gs.c0; clear hr0 hs0 hb0 HG))
 go_quiet (fail)
 have hb1 := (Bel.refl w0).drewN nq
 replace HV := jd ((ju HV).next hb1)
 replace HR4 := jd (hb1.row (ju HR4))
 clear hb1 c1 y0
 generalize w0.drewN nq = w1 at *
 have c0 : w1.cell? ⟨b4, 0, none⟩ = some (.int .i64 A.op) := (cell_of (ju HR4)).trans rfl
 have c2 : w1.cell? ⟨b4, 2, none⟩ = some (.int .i64 A.n) := (cell_of (ju HR4)).trans rfl
 rw [hop] at c0
 go_upto_block 0 with fail
 go_cut [7, 9, 10] (fun v7 v9 v10 wx => ∃ (q1 : Nat) (aO : Option Addr) (cO : Nat) (O : List (GM × GX)), v7 = .int .i64 (q1 : Int) ∧ v9 = .slice aO O.length cO ∧ v10 = .int .i64 0 ∧ Hid (∃ vW1 Q1 L1 M1 gw1, L1.length = n ∧ q1 < n ∧ Gmk σ W n b gP cP bM (k + 1) km q1 vW1 vD L1 Q1 D ld M1 gw1 dn (.slice aO O.length cO) O wx))
 case first =>
  go_wp2_with fail
  have hGd := (ju HV).next (Bel.refl w1).drew
  refine wp_region_held_drew (S := fun w => w.heap[b]? = some (.cells (grp n gP cP bM vW vD) 50)) Tryz.follows hGd.gs.box (fun hS => ?_)
  generalize w1.drew = wd at *
  refine any_take (i := 0) (v := .pointer (some ⟨b, 0, none⟩)) rfl (by kernel_rfl) (fun _ _ _ h => h) rfl hS (fun w hw => by go_simp) ?_
  refine any_take (i := 1) (v := .pointer (some ⟨b, 0, none⟩)) rfl (by kernel_rfl) (fun _ _ _ h => h) rfl hS (fun w hw => by go_simp) ?_
  refine any_take (i := 2) (v := .pointer (some ⟨b, 0, none⟩)) rfl (by kernel_rfl) (fun _ _ _ h => h) rfl hS (fun w hw => by go_simp) ?_
  refine any_take (i := 3) (v := .slice (some ⟨gP, 0, none⟩) n cP) rfl (by kernel_rfl) (fun _ _ _ h => h) rfl hS (fun w hw => by have := (cell_of hw : w.cell? ⟨b, 0, none⟩ = _); change w.cell? ⟨b, 0, none⟩ = some (.slice (some ⟨gP, 0, none⟩) n cP) at this; go_simp) ?_
  refine any_take (i := 4) (v := .int .i64 (q : Int)) rfl (by kernel_rfl) (fun _ _ _ h => h) rfl hS (fun w hw => by go_simp) ?_
  refine any_take (i := 5) (v := .pointer (some ⟨b, 0, none⟩)) rfl (by kernel_rfl) (fun _ _ _ h => h) rfl hS (fun w hw => by go_simp) ?_
  refine any_take (i := 6) (v := .pointer (some ⟨b, 0, none⟩)) rfl (by kernel_rfl) (fun _ _ _ h => h) rfl hS (fun w hw => by go_simp) ?_
  refine any_take (i := 7) (v := .pointer (some ⟨b, 0, none⟩)) rfl (by kernel_rfl) (fun _ _ _ h => h) rfl hS (fun w hw => by go_simp) ?_
  refine any_take (i := 8) (v := .slice (some ⟨gP, 0, none⟩) n cP) rfl (by kernel_rfl) (fun _ _ _ h => h) rfl hS (fun w hw => by have := (cell_of hw : w.cell? ⟨b, 0, none⟩ = _); change w.cell? ⟨b, 0, none⟩ = some (.slice (some ⟨gP, 0, none⟩) n cP) at this; go_simp) ?_
  refine any_take (i := 9) (v := .int .i64 (q : Int)) rfl (by kernel_rfl) (fun _ _ _ h => h) rfl hS (fun w hw => by go_simp) ?_
  refine any_take (i := 10) (v := .pointer (some ⟨gP, q * 18, none⟩)) rfl (by kernel_rfl) (fun _ _ _ h => h) rfl hS (fun w hw => by go_simp) ?_
  refine any_do (i := 11) (v := .agg (gc s x)) (w' := wd) (by kernel_rfl) rfl rfl (el_ld_run (E := EPg) (.tmp 238) (by exact rfl) gP q (by show _ = Value.pointer (some ⟨gP, q * 18, none⟩); go_simp) hGd.gs.row (ju HQL) Tryz.underlying31 (gc s x) (by rw [ju HSX]; rfl)) ⟨hS, ?_⟩
  refine any_call (i := 12) (by kernel_rfl) rfl rfl (by go_simp) ((ju HTk) wd hGd) ?_
  rintro e w5 ⟨p1, b1, x1, rfl, hsd⟩
  have hG5 := hGd.next hsd.bel
  have hS5 : w5.heap[b]? = some (.cells (grp n gP cP bM vW vD) 50) := hG5.gs.box
  refine ⟨_, rfl, hS5, ?_⟩
  refine any_take (i := 13) (v := .pointer (some ⟨gP, q * 18, none⟩)) rfl (by kernel_rfl) (fun _ _ _ h => h) rfl hS5 (fun w hw => by go_simp) ?_
  obtain ⟨gw', hGM⟩ := hGd.put (ju HQL) hsd (hG5.gs.row.put q (ju HQL) (rl n σ p1 b1, x1)) (ch_setCells _ _ _ _)
  refine any_skip (i := 14) (w' := w5.setCells gP (q * EPg.k) (EPg.enc (rl n σ p1 b1, x1))) (by kernel_rfl) rfl rfl (el_st_run (E := EPg) (.tmp 241) (.tmp 240) (by exact rfl) gP q (by show _ = Value.pointer (some ⟨gP, q * 18, none⟩); go_simp) (gc (rl n σ p1 b1) x1) (by go_simp) (rl n σ p1 b1, x1) rfl hG5.gs.row (ju HQL)) ⟨hGM.gs.box, ?_⟩
  have hS6 : (w5.setCells gP (q * EPg.k) (EPg.enc (rl n σ p1 b1, x1))).heap[b]? = some (.cells (grp n gP cP bM vW vD) 50) := hGM.gs.box
  generalize w5.setCells gP (q * EPg.k) (EPg.enc (rl n σ p1 b1, x1)) = w6 at *
  refine wpAnyH_done (by kernel_rfl) ?_ _
  have HM := jd hGM
  clear hGM hsd hS hS5 hS6 hGd hG5
  simp [Act.put]
  go_wp2_with fail
  go_meet
  case rel => exact ⟨q, none, 0, [], rfl, rfl, rfl, jd ⟨vW, Q, _, _, gw', by simpa using hln, hqn, ju HM⟩⟩
 case rest =>
  obtain ⟨q1, aO, cO, O, rfl, rfl, rfl, hcut2⟩ := hcut
  obtain ⟨vW1, Q1, L1, M1, gw1, hL1, hq1, hM⟩ := ju hcut2
  have HM := jd hM
  clear hM hcut2 c0 c2
  have HQ2 : Hid (q1 < L1.length) := jd (by omega)
  have HWL : Hid (Q1.length ≤ 300) := jd (ju HM).ql
  have HBS := jd (ju HM).gs.bel.size
  obtain ⟨aW2, cW2, gW2, eW2, _, _, _⟩ := (ju HM).gs.wo.shape
  subst eW2
  have y1 := (ju HM).gs.c1
  by_cases hl : Q1.length < 150
  ·have hli : (Q1.length : Int) < 150 := by omega
   go_wp2_with (first
    | (at_builtin; with_reducible refine elq_app (ju HM).gs.wo (ju HBS) (ju HM).oo (ju HM).ol (ju HWL) (.tmp 252) (.tmp 253) ?_ ?_ ?_ ?_ ?_; exact rfl; exact rfl; (first | exact rfl | simp [Act.eval]); (first | exact rfl | simp [Act.eval]); intro a8 c8 w8 ho8 hg8; have HJ := jd (aI ho8 hg8); have HBX := jd (row_grown (ju HM).gs.box (ju HM).gs.wo hg8 (by decide)); have y1 : w8.cell? ⟨b, 1, none⟩ = some (.slice aW2 Q1.length cW2) := (cell_of (ju HBX)).trans rfl; have f1 : w8.frozen? ⟨b, 1, none⟩ = false := free_row (ju HBX); clear ho8 hg8)
    | (go_at_call 33; have HK := jd ((ju HM).join hl (ju HJ).1 (ju HJ).2 (w2 := w8.setCell ⟨b, 1, none⟩ (.slice a8 (Q1.length + O.length) c8)) (row_set (ju HBX)) (Ch.set (ad := ⟨b, 1, none⟩) (Ch.refl (fun j => j = b) w8) (Or.inl rfl) _)); refine ((ju HK).held (by omega) (by omega) hn64 (by omega) (ju HQ2)).mono ?_; rintro e wz ⟨rfl, hgz⟩; have HF := jd hgz; clear hgz))
   go_ret
   obtain ⟨vD', D', ld', km', dn', hf⟩ := ju HF
   exact ⟨rfl, _, _, _, _, _, _, _, _, _, _, hf⟩
  ·have hli : ¬ ((Q1.length : Int) < 150) := by omega
   have HK := jd (ju HM).skip
   go_wp2_with (first
    | (go_at_call 33; refine ((ju HK).held (by omega) (by omega) hn64 (by omega) (ju HQ2)).mono ?_; rintro e wz ⟨rfl, hgz⟩; have HF := jd hgz; clear hgz))
   go_ret
   obtain ⟨vD', D', ld', km', dn', hf⟩ := ju HF
   exact ⟨rfl, _, _, _, _, _, _, _, _, _, _, hf⟩
end Go.Proofs.YthekbhliokcpcaaGreat
namespace Go.Proofs.YthekbhliokcpcaaGreat
theorem step_any {σ : Nat → ByteArray} {W w : World} {n b gP cP bM k km : Nat} {vW vD : Value} {L : List (GP × Px)} {Q : List (GM × GX)} {D : List (GE × GA)} {ld : Int → Int} {M : List (PP × Nat)} {gw : List QM} {dn : List PE} (h : Gk σ W n b gP cP bM k km vW vD L Q D ld M gw dn w) (hn1 : 1 ≤ n) (hn64 : n ≤ 64) (hk : k ≤ 70000) (hσ : σ 0 = ⟨#[]⟩) (A : Act4) (iz : Int) (ma mn : Nat) (hma : bits .and .i64 A.a 65535 = (ma : Int)) (hmn : bits .and .i64 A.n 65535 = (mn : Int)) (hσ2 : ∀ t : Nat, 1 ≤ t → σ t = strOfNums [IntKind.u8.wrap (t : Int)]) : Calls Tryz.prog 13 #[.pointer (some ⟨b, 0, none⟩), .agg (ac A), .int .i64 iz] w (StR σ W n b gP cP bM (k + 1)) := by
 by_cases h0 : A.op = 0
 ·exact step_0 h hn1 hn64 hk hσ A iz ma mn hma hmn h0
 by_cases hQ : Q.length = 0
 ·by_cases h12 : A.op = 1 ∨ A.op = 2
  ·exact step_e h hn1 hn64 hk hσ A iz ma mn hma hmn h12 hQ
  ·by_cases h4 : A.op = 4
   ·exact step_4 h hn1 hn64 hk hσ A iz ma mn hma hmn hσ2 h4
   by_cases h8 : A.op = 8
   ·exact step_8 h hn1 hn64 hk hσ A iz ma mn hma hmn h8
   exact step_d h hn1 hn64 hk hσ A iz ma mn hma hmn h0 (fun e => h12 (Or.inl e)) (fun e => h12 (Or.inr e)) h4 h8
 ·by_cases h1 : A.op = 1
  ·cases hkp : A.keep with
   | true => exact step_1 h hn1 hn64 hk hσ A iz ma mn hma hmn h1 hkp hQ
   | false => exact step_3 h hn1 hn64 hk hσ A iz ma mn hma hmn h1 hkp hQ
  by_cases h2 : A.op = 2
  ·exact step_2 h hn1 hn64 hk hσ A iz ma mn hma hmn h2 hQ
  by_cases h4 : A.op = 4
  ·exact step_4 h hn1 hn64 hk hσ A iz ma mn hma hmn hσ2 h4
  by_cases h8 : A.op = 8
  ·exact step_8 h hn1 hn64 hk hσ A iz ma mn hma hmn h8
  exact step_d h hn1 hn64 hk hσ A iz ma mn hma hmn h0 h1 h2 h4 h8
end Go.Proofs.YthekbhliokcpcaaGreat
namespace Go.Proofs.YthekbhliokcpcaaGreat
open Go.RowKit Go.Maps Go.Sort
section
variable {ops : Array Oper} {Q : Exit → Act → World → Prop} {md : Region.Mode} {S : World → Prop} {i : Nat} {o : Oper} {fuel : Nat} {listed : Array Bool} {a : Act} {w : World}
theorem any_pass (hi : ops[i]? = some o) (hs : (Region.noSelect ops && Region.free md ops listed i && (Region.ready md ops listed).contains i) = true) (hQ : ∀ c a w, Q (.panic c) (a.put o.dst undef) w → Q (.panic c) a w) (hw : Region.wanted o (yielded ops a.tmps) = false) (hS : S w)
  (h : wpAnyH Tryz.prog md ops Q S fuel (listed.setIfInBounds i true) (a.put o.dst undef) w) : wpAnyH Tryz.prog md ops Q S (fuel + 1) listed a w := wpAnyH_take hi (tk3 hs).1 (tk3 hs).2.1 (tk3 hs).2.2 hQ (.inr ⟨hw, rfl⟩) hS h
end
theorem Gk.based {σ : Nat → ByteArray} {W w : World} {n b gP cP bM k km q c : Nat} {vW vD : Value} {L : List (GP × Px)} {Q : List (GM × GX)} {D : List (GE × GA)} {ld : Int → Int} {M : List (PP × Nat)} {gw : List QM} {dn : List PE} {p : PP} (h : Gk σ W n b gP cP bM k km vW vD L Q D ld M gw dn w) (hq : q < L.length) (em : M[q]? = some (p, c)) (hc1 : 1 ≤ c) : c ≤ D.length ∧ ∃ hc : c - 1 < D.length, D[c - 1].1.t = tAt p.log c := by
 have hqM : q < M.length := by have := h.len; omega
 rw [List.getElem?_eq_getElem hqM] at em
 have em := Option.some.inj em
 have hmem := List.getElem_mem hqM
 have hb := h.hb _ hmem
 have hd := h.hd _ hmem
 have hq2 : q < (M.map (·.1)).length := by simpa using hqM
 have hok := h.al.ok hq2
 rw [show (M.map (·.1))[q] = p by simp [em]] at hok
 rw [em] at hb hd
 simp only at hb hd
 have hcl : p.commit ≤ p.log.length := hok.1.com
 obtain ⟨r, hr⟩ := hd
 have hdl : D.length = dn.length := by have := congrArg List.length h.hD; simpa using this
 have hdn : dn.length = p.commit + r.length := by rw [← hr, List.length_append, List.length_take]; omega
 have hcd : c ≤ D.length := by omega
 refine ⟨hcd, by omega, ?_⟩
 have h1 : (D.map (·.1))[c - 1]? = (dn.map PE.g)[c - 1]? := by rw [h.hD]
 have h2 : dn[c - 1]? = p.log[c - 1]? := by
  rw [← hr, List.getElem?_append_left (by rw [List.length_take]; omega), List.getElem?_take, if_pos (by omega)]
 rw [List.getElem?_map, List.getElem?_map, h2, List.getElem?_eq_getElem (by omega), List.getElem?_eq_getElem (by omega)] at h1
 have h3 := Option.some.inj h1
 simp only at h3
 rw [h3]
 obtain ⟨j, rfl⟩ : ∃ j, c = j + 1 := ⟨c - 1, by omega⟩
 rw [tAt_succ (by omega)]
 rfl
def sg (b : Nat) : ByteArray := if b = 0 then ⟨#[]⟩ else strOfNums [IntKind.u8.wrap (b : Int)]
theorem sg_pos {b : Nat} (h : 1 ≤ b) : sg b = strOfNums [IntKind.u8.wrap (b : Int)] := if_neg (by omega)
def RowA (W : World) (g off : Nat) (S : List Act4) : Prop := ∀ j (h : j < S.length), W.cell? ⟨g, off + j * 4, none⟩ = some (.int .i64 S[j].op) ∧ W.cell? ⟨g, off + j * 4 + 1, none⟩ = some (.int .i64 S[j].a) ∧ W.cell? ⟨g, off + j * 4 + 2, none⟩ = some (.int .i64 S[j].n) ∧ W.cell? ⟨g, off + j * 4 + 3, none⟩ = some (.bool S[j].keep)
def Gr (W : World) (n b gP cP bM k : Nat) (w : World) : Prop := ∃ km vW vD L Q D ld M gw dn, Gk sg W n b gP cP bM k km vW vD L Q D ld M gw dn w
theorem Gr.next {W w w' : World} {n b gP cP bM k : Nat} (h : Gr W n b gP cP bM k w) (hb : Bel w w') : Gr W n b gP cP bM k w' := by
 obtain ⟨km, vW, vD, L, Q, D, ld, M, gw, dn, h⟩ := h
 exact ⟨km, vW, vD, L, Q, D, ld, M, gw, dn, h.next hb⟩
structure Lk (n b gP cP q c : Nat) (s : GP) (x : Px) (gD nD cD : Nat) (aD : Option Addr) (w : World) : Prop where
 c0 : w.cell? ⟨b, 0, none⟩ = some (.slice (some ⟨gP, 0, none⟩) n cP)
 c2 : w.cell? ⟨b, 2, none⟩ = some (.slice aD nD cD)
 row : ∃ (W : World) (L : List (GP × Px)) (hq : q < L.length), L[q] = (s, x) ∧ EPg.O W.heap.size w (.slice (some ⟨gP, 0, none⟩) n cP) L
 base : s.base = (c : Int)
 snap : s.snap = sg c
 le : c ≤ nD
 aD : nD ≠ 0 → aD = some ⟨gD, 0, none⟩
 tm : 1 ≤ c → w.cell? ⟨gD, (c - 1) * 4, none⟩ = some (.int .u64 s.baseT)
theorem Lk.next {n b gP cP q c : Nat} {s : GP} {x : Px} {gD nD cD : Nat} {aD : Option Addr} {w w' : World} (h : Lk n b gP cP q c s x gD nD cD aD w) (hb : Bel w w') : Lk n b gP cP q c s x gD nD cD aD w' := ⟨hb.cell h.c0, hb.cell h.c2, by obtain ⟨W, L, hq, e, ho⟩ := h.row; exact ⟨W, L, hq, e, ho.bel hb⟩, h.base, h.snap, h.le, h.aD, fun h1 => hb.cell (h.tm h1)⟩
theorem Gr.look {W w : World} {n b gP cP bM k q : Nat} (h : Gr W n b gP cP bM k w) (hq : q < n) : ∃ c s x gD nD cD aD, Lk n b gP cP q c s x gD nD cD aD w ∧ nD ≤ k := by
 obtain ⟨km, vW, vD, L, Q, D, ld, M, gw, dn, h⟩ := h
 have hln := h.len.2
 have hql : q < L.length := by omega
 obtain ⟨p, c, x, hsx, hmq⟩ := rl_inj_at h.hM hql
 obtain ⟨aD, cD, gD, eD, hD0, RD, _⟩ := h.gs.dO.shape
 have hb : 1 ≤ c → _ := fun hc => h.based hql hmq hc
 have hc2 := h.gs.c2
 rw [eD] at hc2
 refine ⟨c, rl n sg p c, x, gD, D.length, cD, aD, ⟨h.gs.c0, hc2, ⟨W, L, hql, hsx, h.gs.row⟩, rfl, rfl, ?_, hD0, fun hc => ?_⟩, ?_⟩
 ·by_cases h0 : 1 ≤ c
  ·exact (hb h0).1
  ·omega
 ·obtain ⟨_, hcd, ht⟩ := hb hc
  have hr := RD (c - 1) hcd 0 _ rfl
  rw [ht] at hr
  have e : EG.k = 4 := rfl
  rw [e, Nat.zero_add, Nat.add_zero] at hr
  exact hr
 ·have := h.al.dnlen
  have h2 := congrArg List.length h.hD
  simp only [List.length_map] at h2
  omega
end Go.Proofs.YthekbhliokcpcaaGreat
