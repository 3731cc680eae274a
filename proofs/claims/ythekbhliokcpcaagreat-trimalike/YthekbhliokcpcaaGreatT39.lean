/- The law of logs cut off behind a snapshot, walked. Rows of acts as arguments, opened. -/
import Derived.Test.YthekbhliokcpcaaGreatT38
import Derived.Test.YthekbhliokcpcaaGreatRows
import Derived.ProofKit
import Derived.OpenShut
import Derived.ShutString
import Derived.SizedLaws
import Derived.SevenTiedAt
namespace Go.Proofs.YthekbhliokcpcaaGreat
open Go.RowKit Go.Maps Go.Sort
set_option maxRecDepth 100000 in
set_option maxHeartbeats 16000000 in
theorem ktl_law {W : World} {size : Int} {S : List Act4} {a1 : Option Addr} {c1 g1 o1 : Nat} (ha : S.length ≠ 0 → a1 = some ⟨g1, o1, none⟩) (hS : RowA W g1 o1 S) : Calls Tryz.prog 4 #[.int .i64 size, .slice a1 S.length c1] W fun e w' => e = .returned (.bool true) ∧ Bel W w' := by
 have HA := jd ha
 have HS := jd hS
 obtain ⟨z, hz, hzb⟩ := i64_mask size 65535 (by decide)
 have hzb' : bits .and .i64 size 65535 = (z : Int) := hzb
 clear ha hS hz hzb
 obtain ⟨n, hn1, hn5, hnz⟩ : ∃ n : Nat, 1 ≤ n ∧ n ≤ 5 ∧ 1 + (z : Int) % 5 = (n : Int) := ⟨1 + z % 5, by omega, by omega, by omega⟩
 have hzt : (z : Int).tmod 5 = (z : Int) % 5 := Int.tmod_eq_emod_of_nonneg (by omega)
 have hw1 : IntKind.i64.wrap (1 + (z : Int) % 5) = (n : Int) := by rw [hnz]; exact wrapI (by omega) (by omega)
 have HBe := jd (fun W' : World => begin_g (σ := sg) (W := W') hn1 hn5 rfl)
 go_enter Tryz.func4, Tryz.ntmps4
 go_wp2_with (first
  | (go_at_call 11; refine alive_t.mono ?_; rintro e w1 ⟨rfl, hb1⟩; have HB1 := jd hb1; clear hb1)
  | (go_at_call 12; (try rw [hnz]); refine ((ju HBe) w1).mono ?_; rintro e w2 ⟨b, gP, cP, bM, L, rfl, hgk⟩; have HG : Hid (Gr w1 n b gP cP bM 0 w2) := jd ⟨_, _, _, _, _, _, _, _, _, _, hgk⟩; clear hgk HBe))
 clear hnz hw1 hzt hzb'
 generalize hNS : S.length = N at *
 have HNS := jd hNS
 clear hNS
 go_loopw [7] (fun v7 wr => ∃ k : Nat, k ≤ 300 ∧ k ≤ N ∧ v7 = .int .i64 k ∧ Hid (Gr w1 n b gP cP bM k wr)) (fun v7 _ => 301 - (intOf v7).toNat)
 case atStart => exact ⟨0, Nat.zero_le _, Nat.zero_le _, rfl, HG⟩
 case round =>
  clear HG
  obtain ⟨k, hk, hkN, rfl, HG⟩ := hrel
  have HBW : Hid (Bel W wr) := jd (by obtain ⟨_, _, _, _, _, _, _, _, _, _, h⟩ := ju HG; exact (ju HB1).trans h.gs.bel)
  by_cases hkS : k < N
  ·have hi1 : (k : Int) < (N : Int) := by omega
   by_cases hk3 : k < 300
   ·have hi2 : (k : Int) < 300 := by omega
    have hkl : k < S.length := by rw [ju HNS]; exact hkS
    obtain rfl := (ju HA) (by omega)
    obtain ⟨r0, r1, r2, r3⟩ := (ju HS) k hkl
    replace r0 := (ju HBW).cell r0
    replace r1 := (ju HBW).cell r1
    replace r2 := (ju HBW).cell r2
    replace r3 := (ju HBW).cell r3
    obtain ⟨ma, hma, hmab⟩ := i64_mask S[k].a 65535 (by decide)
    obtain ⟨mn, hmn, hmnb⟩ := i64_mask S[k].n 65535 (by decide)
    have HSt : Hid (Calls Tryz.prog 13 #[.pointer (some ⟨b, 0, none⟩), .agg #[.int .i64 S[k].op, .int .i64 S[k].a, .int .i64 S[k].n, .bool S[k].keep], .int .i64 (k : Int)] wr fun e w' => e = .returned (.bool true) ∧ Gr w1 n b gP cP bM (k + 1) w') := jd (by
     obtain ⟨km, vW, vD, L, Q, D, ld, M, gw, dn, h⟩ := ju HG
     refine (step_any h hn1 (by omega) (by omega) rfl S[k] (k : Int) ma mn hmab hmnb (fun t ht => sg_pos ht)).mono ?_
     rintro e w' ⟨he, h'⟩
     exact ⟨he, h'⟩)
    clear hmab hmnb hma hmn
    generalize S[k].op = op at *
    generalize S[k].a = za at *
    generalize S[k].n = zn at *
    generalize S[k].keep = kp at *
    go_wp2_with (first
     | (go_at_call 13; refine (ju HSt).mono ?_; rintro e w5 ⟨rfl, hg5⟩; have HG5 := jd hg5; clear hg5 HSt))
    clear r0 r1 r2 r3
    go_loopw [8] (fun v8 wq => ∃ q : Nat, q ≤ n ∧ v8 = .int .i64 q ∧ Hid (Gr w1 n b gP cP bM (k + 1) wq)) (fun v8 _ => n - (intOf v8).toNat)
    case atStart => exact ⟨0, Nat.zero_le _, rfl, HG5⟩
    case round =>
     clear HG5 HG HBW
     obtain ⟨q, hqn, rfl, HQ⟩ := hrel
     by_cases hlt : q < n
     ·have hle : (q : Int) < (n : Int) := by omega
      obtain ⟨c, s, x, gD, nD, cD, aD, hlk, hnD⟩ := (ju HQ).look hlt
      have y0 := hlk.c0
      have HLK := jd hlk
      clear hlk
      have HQL : Hid (∃ (W : World) (L : List (GP × Px)) (hq : q < L.length), L[q] = (s, x) ∧ EPg.O W.heap.size wr (.slice (some ⟨gP, 0, none⟩) n cP) L) := jd (ju HLK).row
      obtain ⟨WL, L, hqL, hsx, hoL⟩ := ju HQL
      have HOL := jd hoL
      have HQq := jd hqL
      have HSX := jd hsx
      clear hsx hoL HQL
      go_wp2_with (first
       | go_skip
       | (with_reducible refine elp_ld (.tmp 52) gP q s x (ju HOL) (ju HQq) (ju HSX) ?_ ?_ ?_ ?_; exact rfl; exact rfl; (first | exact rfl | simp [Act.eval]))
       | (with_reducible refine bxp_new ?_ ?_ ?_; exact rfl; exact rfl; intro b9 w3 hr3 hs3 hb3; have HR3 := jd (aI hr3 (aI hs3 hb3)); clear hr3 hs3 hb3)
       | (with_reducible refine bxp_st (.tmp 9) (.tmp 53) b9 s x (ju HR3).1 ?_ ?_ ?_ ?_ ?_; exact rfl; exact rfl; (first | exact rfl | simp [Act.put, Act.eval]); (first | exact rfl | simp [Act.put, Act.eval]); intro w4 hr4 hc4; have hq4 := bel_off (ju HR3).2.2 hc4 (Nat.le_of_eq (ju HR3).2.1); have HR4 := jd hr4; have HLK4 := jd ((ju HLK).next hq4); have HQ4 := jd ((ju HQ).next hq4); clear hr4 hc4 hq4 HR3 HLK HQ HOL y0))
      have z6 := (Bg.of (ju HR4)).c6
      have z7 := (Bg.of (ju HR4)).c7
      have z9 := (Bg.of (ju HR4)).c9
      rw [(ju HLK4).base] at z6
      rw [(ju HLK4).snap] at z9
      by_cases hc0 : c = 0
      ·subst hc0
       have hGd := (ju HQ4).next (Bel.refl w4).drew
       have z6 := (Bel.refl w4).drew.cell z6
       refine wp_region_held_drew (S := fun w => Bel w4.drew w) Tryz.follows (Bel.refl _) (fun hS => ?_)
       generalize w4.drew = wd at *
       refine any_take (i := 0) (v := .pointer (some ⟨b9, 6, none⟩)) rfl (by kernel_rfl) (fun _ _ _ h => h) (by kernel_rfl) hS (fun w hw => by go_simp) ?_
       refine any_take (i := 1) (v := .int .u64 0) rfl (by kernel_rfl) (fun _ _ _ h => h) (by kernel_rfl) hS (fun w hw => by have hq9 := hw.cell z6; go_simp) ?_
       refine any_take (i := 2) (v := .bool false) rfl (by kernel_rfl) (fun _ _ _ h => h) (by kernel_rfl) hS (fun w hw => by go_simp) ?_
       refine any_take (i := 3) (v := .bool false) rfl (by kernel_rfl) (fun _ _ _ h => h) (by kernel_rfl) hS (fun w hw => by go_simp) ?_
       refine any_pass (i := 4) rfl (by kernel_rfl) (fun _ _ _ h => h) (by kernel_rfl) hS ?_
       refine any_pass (i := 5) rfl (by kernel_rfl) (fun _ _ _ h => h) (by kernel_rfl) hS ?_
       refine any_pass (i := 6) rfl (by kernel_rfl) (fun _ _ _ h => h) (by kernel_rfl) hS ?_
       refine any_pass (i := 7) rfl (by kernel_rfl) (fun _ _ _ h => h) (by kernel_rfl) hS ?_
       refine any_pass (i := 8) rfl (by kernel_rfl) (fun _ _ _ h => h) (by kernel_rfl) hS ?_
       refine any_pass (i := 9) rfl (by kernel_rfl) (fun _ _ _ h => h) (by kernel_rfl) hS ?_
       refine any_pass (i := 10) rfl (by kernel_rfl) (fun _ _ _ h => h) (by kernel_rfl) hS ?_
       refine any_pass (i := 11) rfl (by kernel_rfl) (fun _ _ _ h => h) (by kernel_rfl) hS ?_
       refine any_pass (i := 12) rfl (by kernel_rfl) (fun _ _ _ h => h) (by kernel_rfl) hS ?_
       refine any_pass (i := 13) rfl (by kernel_rfl) (fun _ _ _ h => h) (by kernel_rfl) hS ?_
       refine any_pass (i := 14) rfl (by kernel_rfl) (fun _ _ _ h => h) (by kernel_rfl) hS ?_
       refine any_pass (i := 15) rfl (by kernel_rfl) (fun _ _ _ h => h) (by kernel_rfl) hS ?_
       refine any_pass (i := 16) rfl (by kernel_rfl) (fun _ _ _ h => h) (by kernel_rfl) hS ?_
       refine any_pass (i := 17) rfl (by kernel_rfl) (fun _ _ _ h => h) (by kernel_rfl) hS ?_
       refine any_pass (i := 18) rfl (by kernel_rfl) (fun _ _ _ h => h) (by kernel_rfl) hS ?_
       refine any_pass (i := 19) rfl (by kernel_rfl) (fun _ _ _ h => h) (by kernel_rfl) hS ?_
       refine any_pass (i := 20) rfl (by kernel_rfl) (fun _ _ _ h => h) (by kernel_rfl) hS ?_
       refine any_pass (i := 21) rfl (by kernel_rfl) (fun _ _ _ h => h) (by kernel_rfl) hS ?_
       refine any_pass (i := 22) rfl (by kernel_rfl) (fun _ _ _ h => h) (by kernel_rfl) hS ?_
       refine any_pass (i := 23) rfl (by kernel_rfl) (fun _ _ _ h => h) (by kernel_rfl) hS ?_
       refine any_pass (i := 24) rfl (by kernel_rfl) (fun _ _ _ h => h) (by kernel_rfl) hS ?_
       refine any_pass (i := 25) rfl (by kernel_rfl) (fun _ _ _ h => h) (by kernel_rfl) hS ?_
       refine any_pass (i := 26) rfl (by kernel_rfl) (fun _ _ _ h => h) (by kernel_rfl) hS ?_
       refine any_pass (i := 27) rfl (by kernel_rfl) (fun _ _ _ h => h) (by kernel_rfl) hS ?_
       refine any_pass (i := 28) rfl (by kernel_rfl) (fun _ _ _ h => h) (by kernel_rfl) hS ?_
       refine any_pass (i := 29) rfl (by kernel_rfl) (fun _ _ _ h => h) (by kernel_rfl) hS ?_
       refine any_pass (i := 30) rfl (by kernel_rfl) (fun _ _ _ h => h) (by kernel_rfl) hS ?_
       refine any_pass (i := 31) rfl (by kernel_rfl) (fun _ _ _ h => h) (by kernel_rfl) hS ?_
       refine any_pass (i := 32) rfl (by kernel_rfl) (fun _ _ _ h => h) (by kernel_rfl) hS ?_
       refine any_pass (i := 33) rfl (by kernel_rfl) (fun _ _ _ h => h) (by kernel_rfl) hS ?_
       refine any_pass (i := 34) rfl (by kernel_rfl) (fun _ _ _ h => h) (by kernel_rfl) hS ?_
       refine any_pass (i := 35) rfl (by kernel_rfl) (fun _ _ _ h => h) (by kernel_rfl) hS ?_
       refine any_pass (i := 36) rfl (by kernel_rfl) (fun _ _ _ h => h) (by kernel_rfl) hS ?_
       refine any_pass (i := 37) rfl (by kernel_rfl) (fun _ _ _ h => h) (by kernel_rfl) hS ?_
       refine any_do (i := 38) (v := .bool false) (w' := wd) (by kernel_rfl) rfl rfl (by go_simp) ⟨hS, ?_⟩
       refine wpAnyH_done (by kernel_rfl) ?_ _
       have HQN := jd hGd
       clear hGd hS
       simp [Act.put]
       go_wp2_with fail
       go_roundw
       case rel => exact ⟨q + 1, by omega, by go_num, HQN⟩
       case measure => simp [intOf]; omega
      ·have hc1 : 1 ≤ c := by omega
       have z2 := (ju HLK4).c2
       have zD := (ju HLK4).tm hc1
       have haD := (ju HLK4).aD
       have hle2 := (ju HLK4).le
       rw [sg_pos hc1] at z9
       obtain ⟨j, rfl⟩ : ∃ j, c = j + 1 := ⟨c - 1, by omega⟩
       rw [Nat.add_sub_cancel] at zD
       obtain rfl := haD (by omega)
       obtain ⟨ci, hci⟩ : ∃ ci : Int, ci = ((j + 1 : Nat) : Int) := ⟨_, rfl⟩
       rw [← hci] at z6 z9
       obtain ⟨ub, hub⟩ : ∃ ub, ub = IntKind.u8.wrap ci := ⟨_, rfl⟩
       rw [← hub] at z9
       obtain ⟨st, hst⟩ : ∃ st, st = strOfNums [ub] := ⟨_, rfl⟩
       rw [← hst] at z9
       have HST := jd hst
       have g1 : (0 : Int) < ci := by omega
       have g2 : IntKind.i64.wrap ci = ci := wrapI (by omega) (by omega)
       have g3 : ¬ ((nD : Int) < ci) := by omega
       have g4 : IntKind.u64.wrap (ci - 1) = (j : Int) := by rw [IntKind.wrap_u64]; omega
       have g5 : (j : Int) < (nD : Int) := by omega
       have g6 : IntKind.u8.wrap ci = ub := hub.symm
       generalize s.baseT = tb at *
       clear hst hub haD hc0 hc1 hci hle2
       have hGd := (ju HQ4).next (Bel.refl w4).drew
       have z2 := (Bel.refl w4).drew.cell z2
       have zD := (Bel.refl w4).drew.cell zD
       have z6 := (Bel.refl w4).drew.cell z6
       have z7 := (Bel.refl w4).drew.cell z7
       have z9 := (Bel.refl w4).drew.cell z9
       refine wp_region_held_drew (S := fun w => Bel w4.drew w) Tryz.follows (Bel.refl _) (fun hS => ?_)
       generalize w4.drew = wd at *
       refine any_take (i := 0) (v := .pointer (some ⟨b9, 6, none⟩)) rfl (by kernel_rfl) (fun _ _ _ h => h) (by kernel_rfl) hS (fun w hw => by go_simp) ?_
       refine any_take (i := 1) (v := .int .u64 ci) rfl (by kernel_rfl) (fun _ _ _ h => h) (by kernel_rfl) hS (fun w hw => by have hq9 := hw.cell z6; go_simp) ?_
       refine any_take (i := 2) (v := .bool true) rfl (by kernel_rfl) (fun _ _ _ h => h) (by kernel_rfl) hS (fun w hw => by go_simp) ?_
       refine any_take (i := 3) (v := .bool true) rfl (by kernel_rfl) (fun _ _ _ h => h) (by kernel_rfl) hS (fun w hw => by go_simp) ?_
       refine any_take (i := 4) (v := .pointer (some ⟨b9, 6, none⟩)) rfl (by kernel_rfl) (fun _ _ _ h => h) (by kernel_rfl) hS (fun w hw => by go_simp) ?_
       refine any_take (i := 5) (v := .int .u64 ci) rfl (by kernel_rfl) (fun _ _ _ h => h) (by kernel_rfl) hS (fun w hw => by have hq9 := hw.cell z6; go_simp) ?_
       refine any_take (i := 6) (v := .int .i64 ci) rfl (by kernel_rfl) (fun _ _ _ h => h) (by kernel_rfl) hS (fun w hw => by go_simp) ?_
       refine any_take (i := 7) (v := .pointer (some ⟨b, 0, none⟩)) rfl (by kernel_rfl) (fun _ _ _ h => h) (by kernel_rfl) hS (fun w hw => by go_simp) ?_
       refine any_take (i := 8) (v := .pointer (some ⟨b, 0, none⟩)) rfl (by kernel_rfl) (fun _ _ _ h => h) (by kernel_rfl) hS (fun w hw => by go_simp) ?_
       refine any_take (i := 9) (v := .pointer (some ⟨b, 2, none⟩)) rfl (by kernel_rfl) (fun _ _ _ h => h) (by kernel_rfl) hS (fun w hw => by go_simp) ?_
       refine any_take (i := 10) (v := .slice (some ⟨gD, 0, none⟩) nD cD) rfl (by kernel_rfl) (fun _ _ _ h => h) (by kernel_rfl) hS (fun w hw => by have hq9 := hw.cell z2; go_simp) ?_
       refine any_take (i := 11) (v := .int .i64 (nD : Int)) rfl (by kernel_rfl) (fun _ _ _ h => h) (by kernel_rfl) hS (fun w hw => by go_simp) ?_
       refine any_take (i := 12) (v := .bool false) rfl (by kernel_rfl) (fun _ _ _ h => h) (by kernel_rfl) hS (fun w hw => by go_simp) ?_
       refine any_take (i := 13) (v := .bool false) rfl (by kernel_rfl) (fun _ _ _ h => h) (by kernel_rfl) hS (fun w hw => by go_simp) ?_
       refine any_take (i := 14) (v := .pointer (some ⟨b, 0, none⟩)) rfl (by kernel_rfl) (fun _ _ _ h => h) (by kernel_rfl) hS (fun w hw => by go_simp) ?_
       refine any_take (i := 15) (v := .pointer (some ⟨b, 0, none⟩)) rfl (by kernel_rfl) (fun _ _ _ h => h) (by kernel_rfl) hS (fun w hw => by go_simp) ?_
       refine any_take (i := 16) (v := .pointer (some ⟨b, 2, none⟩)) rfl (by kernel_rfl) (fun _ _ _ h => h) (by kernel_rfl) hS (fun w hw => by go_simp) ?_
       refine any_take (i := 17) (v := .slice (some ⟨gD, 0, none⟩) nD cD) rfl (by kernel_rfl) (fun _ _ _ h => h) (by kernel_rfl) hS (fun w hw => by have hq9 := hw.cell z2; go_simp) ?_
       refine any_take (i := 18) (v := .pointer (some ⟨b9, 6, none⟩)) rfl (by kernel_rfl) (fun _ _ _ h => h) (by kernel_rfl) hS (fun w hw => by go_simp) ?_
       refine any_take (i := 19) (v := .int .u64 ci) rfl (by kernel_rfl) (fun _ _ _ h => h) (by kernel_rfl) hS (fun w hw => by have hq9 := hw.cell z6; go_simp) ?_
       refine any_take (i := 20) (v := .int .u64 (j : Int)) rfl (by kernel_rfl) (fun _ _ _ h => h) (by kernel_rfl) hS (fun w hw => by go_simp) ?_
       refine any_take (i := 21) (v := .pointer (some ⟨gD, j * 4, none⟩)) rfl (by kernel_rfl) (fun _ _ _ h => h) (by kernel_rfl) hS (fun w hw => by go_simp) ?_
       refine any_take (i := 22) (v := .pointer (some ⟨gD, j * 4, none⟩)) rfl (by kernel_rfl) (fun _ _ _ h => h) (by kernel_rfl) hS (fun w hw => by go_simp) ?_
       refine any_take (i := 23) (v := .int .u64 tb) rfl (by kernel_rfl) (fun _ _ _ h => h) (by kernel_rfl) hS (fun w hw => by have hq9 := hw.cell zD; go_simp) ?_
       refine any_take (i := 24) (v := .pointer (some ⟨b9, 7, none⟩)) rfl (by kernel_rfl) (fun _ _ _ h => h) (by kernel_rfl) hS (fun w hw => by go_simp) ?_
       refine any_take (i := 25) (v := .int .u64 tb) rfl (by kernel_rfl) (fun _ _ _ h => h) (by kernel_rfl) hS (fun w hw => by have hq9 := hw.cell z7; go_simp) ?_
       refine any_take (i := 26) (v := .bool false) rfl (by kernel_rfl) (fun _ _ _ h => h) (by kernel_rfl) hS (fun w hw => by go_simp) ?_
       refine any_take (i := 27) (v := .bool false) rfl (by kernel_rfl) (fun _ _ _ h => h) (by kernel_rfl) hS (fun w hw => by go_simp) ?_
       refine any_take (i := 28) (v := .bool false) rfl (by kernel_rfl) (fun _ _ _ h => h) (by kernel_rfl) hS (fun w hw => by go_simp) ?_
       refine any_take (i := 29) (v := .pointer (some ⟨b9, 9, none⟩)) rfl (by kernel_rfl) (fun _ _ _ h => h) (by kernel_rfl) hS (fun w hw => by go_simp) ?_
       refine any_take (i := 30) (v := .string st) rfl (by kernel_rfl) (fun _ _ _ h => h) (by kernel_rfl) hS (fun w hw => by have hq9 := hw.cell z9; go_simp) ?_
       refine any_take (i := 31) (v := .pointer (some ⟨b9, 6, none⟩)) rfl (by kernel_rfl) (fun _ _ _ h => h) (by kernel_rfl) hS (fun w hw => by go_simp) ?_
       refine any_take (i := 32) (v := .int .u64 ci) rfl (by kernel_rfl) (fun _ _ _ h => h) (by kernel_rfl) hS (fun w hw => by have hq9 := hw.cell z6; go_simp) ?_
       refine any_take (i := 33) (v := .int .u8 ub) rfl (by kernel_rfl) (fun _ _ _ h => h) (by kernel_rfl) hS (fun w hw => by go_simp) ?_
       have hA := (Bel.refl wd).alloc (.cells #[.int .u8 ub] 5)
       have hnw := at_new wd (.cells #[.int .u8 ub] 5)
       refine any_do (i := 34) (v := .slice (some ⟨wd.heap.size, 0, none⟩) 1 1) (w' := wd.alloc (.cells #[.int .u8 ub] 5)) (by kernel_rfl) rfl (by kernel_rfl) (by go_simp) ⟨hA, ?_⟩
       refine any_do (i := 35) (v := .string st) (w' := wd.alloc (.cells #[.int .u8 ub] 5)) (by kernel_rfl) rfl (by kernel_rfl) (by rw [ju HST]; exact one_byte (.tmp 88) (by exact rfl) (by go_simp) hnw) ⟨hA, ?_⟩
       refine any_do (i := 36) (v := .bool false) (w' := wd.alloc (.cells #[.int .u8 ub] 5)) (by kernel_rfl) rfl (by kernel_rfl) (by go_simp) ⟨hA, ?_⟩
       refine any_do (i := 37) (v := .bool false) (w' := wd.alloc (.cells #[.int .u8 ub] 5)) (by kernel_rfl) rfl (by kernel_rfl) (by go_simp) ⟨hA, ?_⟩
       refine any_do (i := 38) (v := .bool false) (w' := wd.alloc (.cells #[.int .u8 ub] 5)) (by kernel_rfl) rfl (by kernel_rfl) (by go_simp) ⟨hA, ?_⟩
       refine wpAnyH_done (by kernel_rfl) ?_ _
       have HQN := jd (hGd.next hA)
       clear hGd hnw hA hS
       generalize wd.alloc (.cells #[.int .u8 ub] 5) = wn at *
       simp [Act.put]
       go_wp2_with fail
       go_roundw
       case rel => exact ⟨q + 1, by omega, by go_num, HQN⟩
       case measure => simp [intOf]; omega
     ·have hle : ¬ ((q : Int) < (n : Int)) := by omega
      go_wp2_with fail
      go_roundw
      case rel => exact ⟨k + 1, by omega, by omega, by go_num, HQ⟩
      case measure => simp [intOf]; omega
   ·have hi2 : ¬ ((k : Int) < 300) := by omega
    go_wp2_with fail
    go_ret
    exact ⟨rfl, ju HBW⟩
  ·have hi1 : ¬ ((k : Int) < (N : Int)) := by omega
   go_wp2_with fail
   go_ret
   exact ⟨rfl, ju HBW⟩
end Go.Proofs.YthekbhliokcpcaaGreat
namespace Go.Proofs.YthekbhliokcpcaaGreat
open Go.ChangeShapes Go.WideShapes Go.ChangeAt Go.RowKit
open Go.ChangeMaps (open_string shut_string)
theorem own : ownKnob Tryz.prog.godebug = none := by kernel_rfl
theorem laidOut : laidOutB Tryz.prog = true := by kernel_rfl
theorem list_of {α : Type} {Q : Nat → α → Prop} : ∀ m, (∀ i, i < m → ∃ x, Q i x) → ∃ l : List α, l.length = m ∧ ∀ i (h : i < l.length), Q i l[i]
 | 0, _ => ⟨[], rfl, fun i h => absurd h (Nat.not_lt_zero _)⟩
 | m + 1, hq => by
  obtain ⟨l, hl, hi⟩ := list_of m (fun i h => hq i (by omega))
  obtain ⟨x, hx⟩ := hq m (by omega)
  refine ⟨l ++ [x], by simp [hl], fun i h => ?_⟩
  by_cases e : i < l.length
  ·rw [List.getElem_append_left e]; exact hi i e
  ·have : i = l.length := by simp at h; omega
   subst this
   rw [List.getElem_append_right (Nat.le_refl _)]
   simp [hl, hx]
section
variable {H : Type} {enc : TypeId × Value → H} {w : World} {base : Nat} {sp : Nat → Bool} {held : Bool}
theorem cells_get {a : Addr} {n : Nat} {cs : List Value} (h : w.cells? base a n = some cs) (j : Nat) (hj : j < n) : w.cell? (a.add j) = cs[j]? := by
 unfold World.cells? at h
 split at h
 ·exact mapM_some_get h j j (by simp [hj])
 ·cases h
theorem spot_none {a : Addr} {k : Nat} {cs : List Value} (h : w.cells? base (a.add 0) k = some cs) (hk : 0 < k) (hc : cs.length = k) : a.spot = none := by
 have h1 := cells_get h 0 hk
 cases hsp : a.spot with
 | none => rfl
 | some z =>
  have e : w.cell? ((a.add 0).add 0) = none := by
   unfold World.cell?
   split
   ·rw [if_pos (by simp [Addr.add, hsp])]
   ·rfl
  rw [e, List.getElem?_eq_getElem (by omega)] at h1
  cases h1
theorem wall_mem {P : Program} {e : TypeId} {d : DataW H} : ∀ {l : List (DataW H)}, d ∈ l → ∀ n ∈ d.weights P e, n ∈ DataW.weightsAll P e l
 | x :: l, hd, n, hn => by
  rw [DataW.weightsAll]
  rcases List.mem_cons.1 hd with rfl | hd
  ·exact List.mem_append_left _ hn
  ·exact List.mem_append_right _ (wall_mem hd n hn)
def Rch (t : TypeId) (d : DataW H) : Prop := ∀ n ∈ d.weights Tryz.prog t, n ≤ reachBytes
set_option maxRecDepth 100000 in
theorem open_in {α : Type} {k t e : Nat} {f : α → List Value} {ok : α → Prop} (hk : 0 < k) (hf : ∀ x, (f x).length = k) (hu : Tryz.prog.underlying t = some (.slice e)) (hce : Tryz.prog.cellsOf e = k)
  (hop : ∀ (fuel : Nat) (cs : List Value) (y : DataW H × List MemPlace), cs.length = k → Rch e y.1 → DataW.trod enc Tryz.prog w base sp held fuel e cs = some y → ∃ x, cs = f x ∧ ok x)
  {cl : List Value} {fuel : Nat} {y : DataW H × List MemPlace} (hw : Rch t y.1) (hf0 : DataW.trod enc Tryz.prog w base sp held fuel t cl = some y) :
  ∃ (L : List α) (a : Option Addr) (cap g off : Nat), cl = [.slice a L.length cap] ∧ (∀ x ∈ L, ok x) ∧ (L.length ≠ 0 → a = some ⟨g, off, none⟩) ∧ (L.length ≠ 0 → g < w.heap.size) ∧ L.length * Tryz.prog.bytesOf e ≤ reachBytes ∧ L.length ≤ cap ∧ ∀ j (h : j < L.length) c u, (f L[j])[c]? = some u → w.cell? ⟨g, off + j * k + c, none⟩ = some u := by
 rcases DataW.trod_slice hu hf0 with ⟨hcs, _⟩ | ⟨a, len0, cap0, elems, rest, n, _, hcs, hy, _, hl, _, hlen, hel, _⟩
 ·exact ⟨[], none, 0, 0, 0, hcs, by simp, fun h => absurd rfl h, fun h => absurd rfl h, by simp, by simp, fun j h => by simp at h⟩
 ·have hww : ∀ n ∈ DataW.weights Tryz.prog t (.slice (elems.map (·.1)) (rest.map (·.1)) : DataW H), n ≤ reachBytes := by
   have := hw
   rw [hy] at this
   exact this
  rw [DataW.weights, hu] at hww
  simp only at hww
  obtain ⟨l, hll, hx⟩ := list_of (Q := fun i x => w.cells? base (a.add (i * k)) k = some (f x) ∧ ok x) len0 (fun i hi => by
   have h := hel i hi
   rw [hce] at h
   rw [List.getElem?_eq_getElem (by omega), Option.bind_eq_some_iff] at h
   obtain ⟨cs, h1, h2⟩ := h
   have hcl : cs.length = k := by
    have := h1
    unfold World.cells? at this
    split at this
    ·have := mapM_some_length this
     simpa using this
    ·cases this
   obtain ⟨x, rfl, hok⟩ := hop _ _ _ hcl (fun m hm => hww m (List.mem_cons_of_mem _ (List.mem_append_left _ (wall_mem (List.mem_map.2 ⟨_, List.getElem_mem _, rfl⟩) m hm)))) h2
   exact ⟨x, h1, hok⟩)
  have hbytes : l.length * Tryz.prog.bytesOf e ≤ reachBytes := by
   have h := hww _ (List.mem_cons_self)
   rw [List.length_map, List.length_map, hlen] at h
   rw [hll]
   exact Nat.le_trans (Nat.mul_le_mul_right _ (Nat.le_add_right _ _)) h
  by_cases h0 : l.length = 0
  ·refine ⟨l, some a, cap0, 0, 0, by rw [hll]; exact hcs, fun x hm => ?_, fun h => absurd h0 h, fun h => absurd h0 h, hbytes, by omega, fun j h => by omega⟩
   obtain ⟨i, hi, _⟩ := List.mem_iff_getElem.1 hm
   omega
  ·have hb := World.cells?_block (hx 0 (by omega)).1 hk
   have h00 := (hx 0 (by omega)).1
   rw [Nat.zero_mul] at h00
   have hs : a.spot = none := spot_none h00 hk (hf _)
   have ea : ∀ z, a.add z = ⟨a.block, a.off + z, none⟩ := by
    intro z
    cases a
    simp only at hs
    subst hs
    rw [Addr.add_lit]
   refine ⟨l, some a, cap0, a.block, a.off, by rw [hll]; exact hcs, fun x hm => ?_, fun _ => ?_, fun _ => ?_, hbytes, by omega, fun j hj c u hu => ?_⟩
   ·obtain ⟨i, hi, e⟩ := List.mem_iff_getElem.1 hm
    rw [← e]
    exact (hx i hi).2
   ·cases a; simp_all
   ·simpa [Addr.add] using hb
   ·have hc : c < k := by have := (List.getElem?_eq_some_iff.1 hu).1; rw [hf] at this; exact this
    have h := cells_get (hx j hj).1 c hc
    rw [ea, Addr.add_lit] at h
    rw [h]
    exact hu
end
def encA (s : Act4) : List Value := [.int .i64 s.op, .int .i64 s.a, .int .i64 s.n, .bool s.keep]
section
variable {H : Type} {enc : TypeId × Value → H} {w : World} {base : Nat} {sp : Nat → Bool} {held : Bool}
set_option maxRecDepth 100000 in
theorem t_act {fuel : Nat} {cl : List Value} {y : DataW H × List MemPlace} (hsz : cl.length = 4) (hf : DataW.trod enc Tryz.prog w base sp held fuel 45 cl = some y) :
  ∃ s : Act4, cl = encA s ∧ True := by
 obtain ⟨xs, n0, _, hx, hl, hlen, hq⟩ := DataW.trod_struct Tryz.underlying45 hf
 have c3 : Tryz.prog.cellsOf 3 = 1 := by kernel_rfl
 have c4 : Tryz.prog.cellsOf 4 = 1 := by kernel_rfl
 match cl, hsz with
 | [a0, a1, a2, a3], _ =>
  match xs, hlen with
  | [y0, y1, y2, y3], _ =>
   have h0 : DataW.trod enc Tryz.prog w base sp held n0 3 (([a0, a1, a2, a3].drop 0).take (Tryz.prog.cellsOf 3)) = some y0 := hq 0 _ rfl
   have h1 : DataW.trod enc Tryz.prog w base sp held n0 3 (([a0, a1, a2, a3].drop 1).take (Tryz.prog.cellsOf 3)) = some y1 := hq 1 _ rfl
   have h2 : DataW.trod enc Tryz.prog w base sp held n0 3 (([a0, a1, a2, a3].drop 2).take (Tryz.prog.cellsOf 3)) = some y2 := hq 2 _ rfl
   have h3 : DataW.trod enc Tryz.prog w base sp held n0 4 (([a0, a1, a2, a3].drop 3).take (Tryz.prog.cellsOf 4)) = some y3 := hq 3 _ rfl
   rw [c3] at h0 h1 h2
   rw [c4] at h3
   obtain ⟨op, e0, _, w0⟩ := DataW.trod_int Tryz.underlying3 h0
   obtain ⟨a, e1, _, w1⟩ := DataW.trod_int Tryz.underlying3 h1
   obtain ⟨n, e2, _, w2⟩ := DataW.trod_int Tryz.underlying3 h2
   obtain ⟨kp, e3, _⟩ := DataW.trod_bool Tryz.underlying4 h3
   simp at e0 e1 e2 e3
   subst e0 e1 e2 e3
   exact ⟨⟨op, a, n, kp⟩, rfl, trivial⟩
set_option maxRecDepth 100000 in
theorem open_acts {v : Value} {d : DataW H} {ps : List MemPlace} {r : Reach} {b0 : Nat} (hw : Rch 39 d) (hval : Value.okWide Tryz.prog w r b0 39 v) (hd : DataW.Trod enc Tryz.prog w base sp held 39 v d ps) :
  ∃ (S : List Act4) (a : Option Addr) (cap g off : Nat), v = .slice a S.length cap ∧ (S.length ≠ 0 → a = some ⟨g, off, none⟩) ∧ RowA w g off S := by
 obtain ⟨a0, len0, cap0, rfl⟩ := okWide_slice Tryz.underlying39 hval
 obtain ⟨fuel, hf0⟩ := hd
 obtain ⟨S, a, cap, g, off, h1, _, h2, _, _, _, h3⟩ := open_in (k := 4) (ok := fun _ => True) (f := encA) (by decide) (fun _ => rfl) Tryz.underlying39 (by kernel_rfl) (fun fuel cs y hl _ h => t_act hl h) (y := (d, ps)) hw hf0
 simp [Value.cells] at h1
 exact ⟨S, a, cap, g, off, by rw [h1.1, h1.2.1, h1.2.2], h2, fun j hj => ⟨h3 j hj 0 _ rfl, h3 j hj 1 _ rfl, h3 j hj 2 _ rfl, h3 j hj 3 _ rfl⟩⟩
end
end Go.Proofs.YthekbhliokcpcaaGreat
