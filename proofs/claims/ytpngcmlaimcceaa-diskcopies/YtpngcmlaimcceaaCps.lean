/- A copy stands for itself; two disks are the same just if they look the same: the law's walk. -/
import Derived.Test.YtpngcmlaimcceaaPla
import Derived.Test.YtpngcmlaimcceaaDcp
import Derived.Test.YtpngcmlaimcceaaDsm
import Derived.Test.YtpngcmlaimcceaaSam
namespace Go.Proofs.Ytpngcmlaimcceaa
open Go.RowKit Go.Maps Go.WideMaps
theorem sm_one (d x : PD) : smP d x = smD d x := by
  unfold smP smD
  rw [Bool.and_comm, Bool.and_assoc]
theorem sm_self (d : PD) : smP d d = true := by simp [smP]
theorem pr_copy {C : Nat} {w w1 w2 : World} {pd pc py : Nat} {d : PD} {M1 B1 M' B' : Nat → Prop} (h1 : Dk C w pd d M1 B1) (h3 : Dk C w1 pc d (fun i => w.heap.size ≤ i ∧ i < w1.heap.size) B1) (hb1 : Bel w w1) (h4 : Dx C w2 py d M' B') (hm : ∀ i, M' i → w1.heap.size ≤ i) (hbb : ∀ i, B' i → w1.heap.size ≤ i) (hb2 : Bel w1 w2) : Pr C (fun i => i < w.heap.size) w2 pc py d d :=
  ⟨⟨_, _, _, _, h3.bel hb2, h4, fun i a b => by have := hm i b; omega, fun i a b => by have := hbb i b; omega, fun i a b => by have := hm i a; have := h1.ltB i b; have := hb1.size; omega, fun i a b => by omega, fun i a b => by have := hm i a; have := hb1.size; omega⟩, fun i hi => Nat.lt_of_lt_of_le hi (Nat.le_trans hb1.size hb2.size)⟩
set_option maxRecDepth 100000 in
set_option maxHeartbeats 8000000 in
theorem copies_law (room : Int) (hr1 : room < 9223372036854775808) (l : List St) (N cap g off : Nat) (a : Option Addr) (hN : l.length = N) (ha : N ≠ 0 → a = some ⟨g, off, none⟩) (l2 : List St) (N2 cap2 g2 off2 : Nat) (a2 : Option Addr) (hN2 : l2.length = N2) (ha2 : N2 ≠ 0 → a2 = some ⟨g2, off2, none⟩) (w : World) (hg : N ≠ 0 → g < w.heap.size) (hrow : Row5 w g off l) (hok : ∀ s ∈ l, okS s) (hg2 : N2 ≠ 0 → g2 < w.heap.size) (hrow2 : Row5 w g2 off2 l2) (hok2 : ∀ s ∈ l2, okS s) :
    Calls Try.prog 4 #[.int .i64 room, .slice a N cap, .slice a2 N2 cap2] w fun e w' => e = .returned (.bool true) ∧ Bel w w' := by
  have HN := hide hN
  have HA := hide ha
  have HG := hide hg
  have HROW := hide hrow
  have HOK := hide hok
  have HN2 := hide hN2
  have HA2 := hide ha2
  have HG2 := hide hg2
  have HROW2 := hide hrow2
  have HOK2 := hide hok2
  have HR := hide hr1
  clear hN ha hg hrow hok hr1 hN2 ha2 hg2 hrow2 hok2
  go_enter Try.func4, Try.ntmps4
  go_wp2_with fail
  refine (new_any room (unhide HR) 128 w).mono ?_
  rintro e w1 ⟨pd, rfl, hd1, hb1⟩
  have HD1 := hide hd1
  clear hd1
  go_wp2_with fail
  refine (dnew_any room (unhide HR) 128 w1).mono ?_
  rintro e w2 ⟨px, rfl, hd2, hb2⟩
  have HPL : Hid (Pl w pd px 0 w2) := ⟨⟨128, PD.new room, by omega, pr_new (unhide HD1) hb1 hd2 hb2, Nat.zero_le _, fun o ho => by cases ho⟩, hb1.trans hb2⟩
  clear hd2 HD1
  go_wp2_with fail
  go_loopw [9] (fun vi wr => ∃ k : Nat, k ≤ N ∧ k ≤ 50 ∧ vi = .int .i64 k ∧ Hid (Pl w pd px k wr)) (fun vi _ => 50 - (intOf vi).toNat)
  case atStart => exact ⟨0, Nat.zero_le _, by omega, rfl, HPL⟩
  case round =>
    obtain ⟨k, hk, hk2, rfl, HO⟩ := hrel
    by_cases hlt : k < N ∧ k < 50
    · obtain ⟨hlt1, hlt2⟩ := hlt
      have hkl : k < l.length := by rw [HN.out]; exact hlt1
      have hg := (unhide HG) (by omega)
      obtain rfl := HA.out (by omega)
      obtain ⟨e0, e1, e2, e3, e4⟩ := (unhide HROW) k hkl
      have hbl := (unhide HO).bel
      have x0 := (hbl.cell hg).trans e0
      have x1 := (hbl.cell hg).trans e1
      have x2 := (hbl.cell hg).trans e2
      have x3 := (hbl.cell hg).trans e3
      have x4 := (hbl.cell hg).trans e4
      have hs := (unhide HOK) l[k] (List.getElem_mem hkl)
      generalize l[k] = s at x0 x1 x2 x3 x4 hs
      obtain ⟨sc, sn, st, sk, sm⟩ := s
      simp only at x0 x1 x2 x3 x4
      have HS : Hid (okS (sc, sn, st, sk, sm)) := hs
      have hki : (k : Int) < (N : Int) := by omega
      have hki2 : (k : Int) < 50 := by omega
      clear e0 e1 e2 e3 e4 hs hbl
      by_cases hbig : 4096 ≤ st.length
      · have hbi : ¬ (st.length : Int) < (4096 : Int) := by omega
        go_wp2_with fail
        go_roundw
        case rel => exact ⟨k + 1, by omega, by omega, by go_num, (unhide HO).up⟩
        case measure => simp [intOf]; omega
      · have hbi : (st.length : Int) < (4096 : Int) := by omega
        obtain ⟨C, d, hC, hp, hol, htx⟩ := (unhide HO).ex
        have h9 := hide (ld_any hp sc sn st sk sm (unhide HS).1 (unhide HS).2.1 (by omega) (unhide HS).2.2.1 (unhide HS).2.2.2 (by omega) (by omega) htx)
        have HBL := hide (unhide HO).bel
        clear hp htx
        go_wp2_with (go_at_call 9; refine (unhide h9).mono ?_; rintro e w5 ⟨rfl, d5, hpr5, hkp5, hnx5⟩; have HPR := hide hpr5; have HKP := hide hkp5; have HNX := hide hnx5; clear hpr5 hkp5 hnx5)
        go_roundw
        case rel => exact ⟨k + 1, by omega, by omega, by go_num, ⟨⟨C + 2 * st.length, d5, by omega, unhide HPR, by have := (unhide HNX).1; omega, (unhide HNX).2⟩, kp_bel (unhide HBL) (unhide HKP)⟩⟩
        case measure => simp [intOf]; omega
    · obtain ⟨wa, hwa⟩ : ∃ z, z = wr := ⟨_, rfl⟩
      subst hwa
      obtain ⟨C, d, hC, hp, hol, htx⟩ := (unhide HO).ex
      have HBL := hide (unhide HO).bel
      obtain ⟨M1, B1, M2, B2, f1, f2, f3⟩ := hp.ex
      have h15 := hide (copyp_any f1 (by omega))
      have h16 := hide (fun W (hb : Bel wa W) => dcopy_any (f2.bel hb) (by omega))
      have HP := hide hp
      have HF1 := hide f1
      have HF2 := hide f2
      have HTX := hide htx
      clear hp htx f1 f2 f3
      have hE : ((k : Int) < (N : Int) ∧ ¬ (k : Int) < 50) ∨ ¬ (k : Int) < (N : Int) := by omega
      rcases hE with ⟨hE1, hE2⟩ | hE1
      all_goals
        go_wp2_with (first
          | (go_at_call 15; refine (unhide h15).mono ?_; rintro e w3 ⟨pc, rfl, hd3, hb3⟩; have HD3 := hide hd3; clear hd3)
          | (go_at_call 16; refine ((unhide h16) _ hb3).mono ?_; rintro e w4 ⟨py, M', B', rfl, hd4, hm4, hB4, hb4⟩; have HPC := hide (pr_copy (unhide HF1) (unhide HD3) hb3 hd4 hm4 hB4 hb4); have h17 := hide (same_any ((unhide HD3).bel hb4) ((unhide HF1).bel (hb3.trans hb4))); rw [sm_self] at h17; clear hd4 hm4 hB4)
          | (go_at_call 17; refine (unhide h17).mono ?_; rintro e w5 ⟨rfl, hb5⟩; have HB5 := hide (hb3.trans (hb4.trans hb5)); have HPL2 : Hid (Pl wa pc py (50 + 0) w5) := ⟨⟨C, d, by omega, ((unhide HPC).bel hb5).1, by omega, unhide HTX⟩, unhide HB5⟩))
        go_loopw [12] (fun vi W => ∃ k2 : Nat, k2 ≤ N2 ∧ k2 ≤ 50 ∧ vi = .int .i64 k2 ∧ Hid (Pl wa pc py (50 + k2) W)) (fun vi _ => 50 - (intOf vi).toNat)
        case atStart => exact ⟨0, Nat.zero_le _, by omega, rfl, HPL2⟩
        case round =>
          obtain ⟨k2, hk2, hk22, rfl, HO2⟩ := hrel
          by_cases hlt : k2 < N2 ∧ k2 < 50
          · obtain ⟨hlt1, hlt2⟩ := hlt
            have hkl : k2 < l2.length := by rw [HN2.out]; exact hlt1
            have hg := (unhide HG2) (by omega)
            obtain rfl := HA2.out (by omega)
            obtain ⟨e0, e1, e2, e3, e4⟩ := (unhide HROW2) k2 hkl
            have hbl := (unhide HBL).trans (unhide HO2).bel
            have x0 := (hbl.cell hg).trans e0
            have x1 := (hbl.cell hg).trans e1
            have x2 := (hbl.cell hg).trans e2
            have x3 := (hbl.cell hg).trans e3
            have x4 := (hbl.cell hg).trans e4
            have hs := (unhide HOK2) l2[k2] (List.getElem_mem hkl)
            generalize l2[k2] = s at x0 x1 x2 x3 x4 hs
            obtain ⟨sc, sn, st, sk, sm⟩ := s
            simp only at x0 x1 x2 x3 x4
            have HS : Hid (okS (sc, sn, st, sk, sm)) := hs
            have hki : (k2 : Int) < (N2 : Int) := by omega
            have hki2 : (k2 : Int) < 50 := by omega
            clear e0 e1 e2 e3 e4 hs hbl
            by_cases hbig : 4096 ≤ st.length
            · have hbi : ¬ (st.length : Int) < (4096 : Int) := by omega
              go_wp2_with fail
              go_roundw
              case rel => exact ⟨k2 + 1, by omega, by omega, by go_num, (unhide HO2).up⟩
              case measure => simp [intOf]; omega
            · have hbi : (st.length : Int) < (4096 : Int) := by omega
              obtain ⟨C6, d6, hC6, hp6, hol6, htx6⟩ := (unhide HO2).ex
              have h9 := hide (ld_any hp6 sc sn st sk sm (unhide HS).1 (unhide HS).2.1 (by omega) (unhide HS).2.2.1 (unhide HS).2.2.2 (by omega) (by omega) htx6)
              have HBL2 := hide (unhide HO2).bel
              clear hp6 htx6
              go_wp2_with (go_at_call 9; refine (unhide h9).mono ?_; rintro e w7 ⟨rfl, d7, hpr7, hkp7, hnx7⟩; have HPR7 := hide hpr7; have HKP7 := hide hkp7; have HNX7 := hide hnx7; clear hpr7 hkp7 hnx7)
              go_roundw
              case rel => exact ⟨k2 + 1, by omega, by omega, by go_num, ⟨⟨C6 + 2 * st.length, d7, by omega, unhide HPR7, by have := (unhide HNX7).1; omega, (unhide HNX7).2⟩, kp_bel (unhide HBL2) (unhide HKP7)⟩⟩
              case measure => simp [intOf]; omega
          · obtain ⟨C6, d6, hC6, hp6, hol6, htx6⟩ := (unhide HO2).ex
            have HBL2 := hide (unhide HO2).bel
            have h13 := hide (fun W (hb : Bel wa W) => stands_any ((unhide HP).bel hb).1 (by omega))
            have h13c := hide (fun W (hb : Bel wr W) => stands_any (hp6.bel hb).1 (by omega))
            obtain ⟨P1, Q1, P2, Q2, i1, i2, i3⟩ := hp6.ex
            have h17b := hide (fun W (hb : Bel wr W) => same_any (i1.bel hb) ((unhide HF1).bel ((unhide HBL2).trans hb)))
            have h18b := hide (fun W (hb : Bel wr W) => dsame_any (i2.bel hb) ((unhide HF2).bel ((unhide HBL2).trans hb)))
            rw [sm_one] at h17b
            generalize smD d6 d = sm at h17b h18b
            clear hp6 htx6 i1 i2 i3
            have hE : ((k2 : Int) < (N2 : Int) ∧ ¬ (k2 : Int) < 50) ∨ ¬ (k2 : Int) < (N2 : Int) := by omega
            rcases hE with ⟨hF1, hF2⟩ | hF1
            all_goals
              go_wp2_with fail
              refine ((unhide h13) wr (unhide HBL2)).mono ?_
              rintro e w7 ⟨rfl, hb7⟩
              go_wp2_with fail
              refine ((unhide h13c) w7 hb7).mono ?_
              rintro e w8 ⟨rfl, hb8⟩
              go_wp2_with fail
              refine ((unhide h17b) w8 (hb7.trans hb8)).mono ?_
              rintro e w9 ⟨rfl, hb9⟩
              go_wp2_with fail
              refine ((unhide h18b) w9 ((hb7.trans hb8).trans hb9)).mono ?_
              rintro e w10 ⟨rfl, hb10⟩
              have hbb := hide (((unhide HBL).trans (unhide HBL2)).trans (((hb7.trans hb8).trans hb9).trans hb10))
              clear hb7 hb8 hb9 hb10
              go_wp2_with fail
              refine (alive_any w10).mono ?_
              rintro e w11 ⟨rfl, hb11⟩
              go_wp2_with fail
              all_goals first | exact ⟨rfl, (unhide hbb).trans hb11⟩ | (go_ret; exact ⟨rfl, (unhide hbb).trans hb11⟩)
end Go.Proofs.Ytpngcmlaimcceaa
