/- What was synced outlives every crash: the law's walk. -/
import Derived.Test.YtgimciacapfbfaaGreatDoorCul
import Derived.Test.YtgimciacapfbfaaGreatDoorNlw
import Derived.Maps.AppendAt
import Derived.Test.YtgimciacapfbfaaGreatDoorOpa
namespace Go.Proofs.YtgimciacapfbfaaGreatDoor
open Go.RowKit Go.Maps Go.WideMaps
theorem keep_arg (K c0 : Nat) : (c0 : Int) % ((K : Int) + 1) = ((c0 % (K + 1) : Nat) : Int) := by
  rw [Int.natCast_emod]; rfl
set_option maxRecDepth 100000 in
set_option maxHeartbeats 8000000 in
theorem cuts_law (l : List (List UInt8)) (N cap g off : Nat) (a : Option Addr) (hN : l.length = N) (ha : N ≠ 0 → a = some ⟨g, off, none⟩) (bl : List Bool) (N2 cap2 g2 off2 : Nat) (a2 : Option Addr) (hN2 : bl.length = N2) (ha2 : N2 ≠ 0 → a2 = some ⟨g2, off2, none⟩) (kp tn : Int) (w : World) (hg : Gl w) (hgl : N ≠ 0 → g < w.heap.size) (hrow : RowS w g off l) (hgl2 : N2 ≠ 0 → g2 < w.heap.size) (hrow2 : RowB w g2 off2 bl) :
    Calls Tryz.prog 3 #[.slice a N cap, .slice a2 N2 cap2, .int .i64 kp, .int .i64 tn] w fun e w' => e = .returned (.bool true) ∧ Bel w w' := by
  have HN := hide hN
  have HA := hide ha
  have HN2 := hide hN2
  have HA2 := hide ha2
  have HG := hide hg
  have HGL := hide hgl
  have HROW := hide hrow
  have HGL2 := hide hgl2
  have HROW2 := hide hrow2
  have h6 := hide (new_any 16777216 (by omega) 1000 w)
  obtain ⟨i0, hi0, hz0, hz1, hz2⟩ := Tryz.i9
  obtain ⟨k0, hk0, hank⟩ := and_small kp
  obtain ⟨t0, ht0, hant⟩ := and_small tn
  clear hN ha hg hgl hrow hN2 ha2 hgl2 hrow2
  have hnm : ([119] : List UInt8) ≠ [] := by simp
  go_enter Tryz.func3, Tryz.ntmps3
  go_wp2_with fail
  refine (unhide h6).mono ?_
  rintro e w1 ⟨p, rfl, hd1, hb1⟩
  have HDA : Hid (Da w 1000 (fun i => i < w.heap.size) w1 p (PD.new 16777216)) := da_new hd1 hb1 (Bel.refl w) (fun i hi => hi) (fun i hi => hi)
  clear hd1
  go_wp2_with fail
  refine (open_new (unhide HDA) (unhide HG) [119] hnm (by decide) (by decide) rfl (by decide) (by decide)).mono ?_
  rintro e w2 ⟨q, rfl, hwa2, hkp2⟩
  have H2 := hide (lp_new hwa2)
  clear hwa2 hkp2 HDA h6
  go_wp2_with fail
  go_loopw [12, 13, 14, 15, 16] (fun vin vs vi _ _ wr => ∃ (k s : Nat) (rs : List (List UInt8)) (x : PW) (d : PD) (ai : Option Addr) (ci : Nat), k ≤ N ∧ k ≤ 100 ∧ rs.length ≤ k ∧ vi = .int .i64 k ∧ vs = .int .i64 s ∧ vin = .slice ai rs.length ci ∧ Hid (Lp w wr q p (.slice ai rs.length ci) s rs rs x d)) (fun _ _ vi _ _ _ => N - (intOf vi).toNat)
  case atStart => exact ⟨0, 0, [], _, _, none, 0, Nat.zero_le _, Nat.zero_le _, Nat.le_refl _, rfl, rfl, rfl, H2⟩
  case round =>
    obtain ⟨k, s, rs, x, d, ai, ci, hk, hk2, hrk, rfl, rfl, rfl, HO⟩ := hrel
    by_cases hlt : k < N ∧ k < 100
    · have hki : (k : Int) < (N : Int) := by omega
      have hki2 : (k : Int) < 100 := by omega
      have hkl : k < l.length := by rw [HN.out]; omega
      obtain rfl := HA.out (by omega)
      have hkN : k < N := hlt.1
      have X0 := hide (fun W (hb : Bel w W) => (hb.cell (p := ⟨g, off + k, none⟩) ((unhide HGL) (by omega))).trans ((unhide HROW) k hkl))
      have x0 := (unhide X0) wr (unhide HO).wa.bel
      generalize l[k] = t at x0 X0
      clear hlt
      by_cases hs : 300 < t.length
      · have hs1 : (300 : Int) < (t.length : Int) := by omega
        go_wp2_with fail
        go_roundw
        case rel => exact ⟨k + 1, s, rs, x, d, ai, ci, by omega, by omega, by omega, by go_num, rfl, rfl, HO⟩
        case measure => simp [intOf]; omega
      · have hs1 : ¬ (300 : Int) < (t.length : Int) := by omega
        have h8 := hide (lp_append (unhide HO) (unhide HG) t (by omega) (by omega))
        by_cases hsy : k < N2
        · have hsi : (k : Int) < (N2 : Int) := by omega
          obtain rfl := HA2.out (by omega)
          have hkl2 : k < bl.length := by rw [HN2.out]; omega
          have Y0 := hide (fun W (hb : Bel w W) => (hb.cell (p := ⟨g2, off2 + k, none⟩) ((unhide HGL2) (by omega))).trans ((unhide HROW2) k hkl2))
          generalize bl[k] = y at Y0
          cases y with
          | false =>
            go_wp2_with (first
              | (go_at_call 8; refine (unhide h8).mono ?_; rintro e w3 ⟨rfl, x3, d3, h3⟩; have H3 := hide h3; have x1 := (unhide X0) w3 h3.wa.bel; clear h3)
              | (at_builtin; refine wpList_append_own_at _ rfl _ _ 22 rfl w.heap.size 9 i0 (.string ⟨#[]⟩) 1 16 Tryz.underlying22 hi0 hz0 hz1 hz2 rfl (by decide) (.slice ai rs.length ci) rs.length (rs.map vS) rfl ((unhide H3).own.alloc _) ⟨w3.heap.size, 0, none⟩ 1 1 [.string ⟨t.toArray⟩] rfl rfl (World.news_of_block (at_new w3 _)) (by simp [Value.oneCell']) (by unfold maxLen; omega) (by omega) (by have := (unhide H3).wa.bel.size; simp; omega) ?_; intro v4 w4 hown4 hg4 _ hat4; obtain ⟨a4, c4, rfl⟩ := own_slice hown4; have h4 := lp_in (unhide H3) t _ hg4 hown4 hat4; obtain ⟨rs', hrs'⟩ : ∃ z, z = rs ++ [t] := ⟨_, rfl⟩; have hl' : rs.length + 1 = rs'.length := (by rw [hrs']; simp); rw [← hrs'] at h4; rw [hl'] at h4 ⊢; have H4 := hide h4; have y1 := (unhide Y0) w4 h4.wa.bel; clear h4 hown4 hg4 hat4 hrs'; go_frame))
            go_roundw
            case rel => exact ⟨k + 1, s, rs', x3, d3, a4, c4, by omega, by omega, by omega, by go_num, rfl, rfl, H4⟩
            case measure => simp [intOf]; omega
          | true =>
            go_wp2_with (first
              | (go_at_call 8; refine (unhide h8).mono ?_; rintro e w3 ⟨rfl, x3, d3, h3⟩; have H3 := hide h3; have x1 := (unhide X0) w3 h3.wa.bel; clear h3)
              | (at_builtin; refine wpList_append_own_at _ rfl _ _ 22 rfl w.heap.size 9 i0 (.string ⟨#[]⟩) 1 16 Tryz.underlying22 hi0 hz0 hz1 hz2 rfl (by decide) (.slice ai rs.length ci) rs.length (rs.map vS) rfl ((unhide H3).own.alloc _) ⟨w3.heap.size, 0, none⟩ 1 1 [.string ⟨t.toArray⟩] rfl rfl (World.news_of_block (at_new w3 _)) (by simp [Value.oneCell']) (by unfold maxLen; omega) (by omega) (by have := (unhide H3).wa.bel.size; simp; omega) ?_; intro v4 w4 hown4 hg4 _ hat4; obtain ⟨a4, c4, rfl⟩ := own_slice hown4; have h4 := lp_in (unhide H3) t _ hg4 hown4 hat4; obtain ⟨rs', hrs'⟩ : ∃ z, z = rs ++ [t] := ⟨_, rfl⟩; have hl' : rs.length + 1 = rs'.length := (by rw [hrs']; simp); rw [← hrs'] at h4; rw [hl'] at h4 ⊢; have H4 := hide h4; have y1 := (unhide Y0) w4 h4.wa.bel; clear h4 hown4 hg4 hat4 hrs'; go_frame)
              | (go_at_call 9; refine (lp_sync (unhide H4)).mono ?_; rintro e w5 ⟨rfl, h5⟩; have H5 := hide h5; clear h5))
            go_roundw
            case rel => exact ⟨k + 1, rs'.length, rs', x3, d3.sync, a4, c4, by omega, by omega, by omega, by go_num, rfl, rfl, H5⟩
            case measure => simp [intOf]; omega
        · have hsi : ¬ (k : Int) < (N2 : Int) := by omega
          go_wp2_with (first
            | (go_at_call 8; refine (unhide h8).mono ?_; rintro e w3 ⟨rfl, x3, d3, h3⟩; have H3 := hide h3; have x1 := (unhide X0) w3 h3.wa.bel; clear h3)
            | (at_builtin; refine wpList_append_own_at _ rfl _ _ 22 rfl w.heap.size 9 i0 (.string ⟨#[]⟩) 1 16 Tryz.underlying22 hi0 hz0 hz1 hz2 rfl (by decide) (.slice ai rs.length ci) rs.length (rs.map vS) rfl ((unhide H3).own.alloc _) ⟨w3.heap.size, 0, none⟩ 1 1 [.string ⟨t.toArray⟩] rfl rfl (World.news_of_block (at_new w3 _)) (by simp [Value.oneCell']) (by unfold maxLen; omega) (by omega) (by have := (unhide H3).wa.bel.size; simp; omega) ?_; intro v4 w4 hown4 hg4 _ hat4; obtain ⟨a4, c4, rfl⟩ := own_slice hown4; have h4 := lp_in (unhide H3) t _ hg4 hown4 hat4; obtain ⟨rs', hrs'⟩ : ∃ z, z = rs ++ [t] := ⟨_, rfl⟩; have hl' : rs.length + 1 = rs'.length := (by rw [hrs']; simp); rw [← hrs'] at h4; rw [hl'] at h4 ⊢; have H4 := hide h4; clear h4 hown4 hg4 hat4 hrs'; go_frame))
          go_roundw
          case rel => exact ⟨k + 1, s, rs', x3, d3, a4, c4, by omega, by omega, by omega, by go_num, rfl, rfl, H4⟩
          case measure => simp [intOf]; omega
    · have hol := (unhide HO).inv.ops
      have h11 := hide (lp_loose (unhide HO))
      have h10 := hide (fun K hK => lp_crash (unhide HO) K t0 hK ht0)
      generalize d.ops.length = L at hol h11 h10
      have hL0 : ¬ ((L : Int) + 1 = 0) := by omega
      rcases (by omega : ¬ (k : Int) < (N : Int) ∨ ((k : Int) < (N : Int) ∧ ¬ (k : Int) < 100)) with hA | ⟨hA, hB⟩
      · go_wp2_with (go_at_call 11; refine (unhide h11).mono ?_; rintro e w3 ⟨rfl, hw3⟩; rw [hw3]; clear hw3)
        rw [keep_arg L k0]
        have hKL : k0 % (L + 1) ≤ L := by have := Nat.mod_lt k0 (show 0 < L + 1 by omega); omega
        generalize k0 % (L + 1) = K at hKL
        refine ((unhide h10) K hKL).mono ?_
        rintro e w4 ⟨rfl, r, t, ex, d4, hsr, hrl, hq⟩
        have HQ := hide hq
        clear hq h10 h11
        go_wp2_with fail
        refine (lq_open (unhide HQ) (unhide HG) hrl).mono ?_
        rintro e w5 ⟨q5, rfl, x5, d5, ex5, hr5⟩
        have H5 := hide hr5
        have hr100 : r ≤ 100 := by have := hr5.le; omega
        clear hr5 HQ
        have hc1 : ¬ (r : Int) < (s : Int) := by omega
        have hc2 : ¬ (rs.length : Int) < (r : Int) := by omega
        obtain ⟨n1, hn1⟩ : ∃ z, z = 1 + r := ⟨_, rfl⟩
        have NX : Hid (∀ W, Lr w W q5 p (Value.slice ai rs.length ci) rs r ex5 x5 d5 → Calls Tryz.prog 13 #[.pointer (some ⟨q5, 0, none⟩)] W fun e w' => e = .returned (.int .i64 (n1 : Int)) ∧ Bel W w') := fun W h => by
          rw [hn1]; exact h.next hr100
        have e1 : IntKind.i64.wrap ((n1 : Int) - 1) = (r : Int) := by rw [wrapI (by omega) (by omega)]; omega
        go_wp2_with (first
          | (go_at_call 12; refine ((unhide H5).first hr100).mono ?_; rintro e w6 ⟨rfl, hw6⟩; rw [hw6]; clear hw6)
          | (go_at_call 13; refine ((unhide NX) w7 (unhide H7)).mono ?_; rintro e w8 ⟨rfl, hb8⟩; have H8 := hide ((unhide H7).up hb8); clear hb8)
          | (go_at_call 13; refine ((unhide NX) w5 (unhide H5)).mono ?_; rintro e w7 ⟨rfl, hb7⟩; have H7 := hide ((unhide H5).up hb7); clear hb7))
        go_loopw [17, 18, 19] (fun vi _ _ wr => ∃ j : Nat, 1 ≤ j ∧ j ≤ 1 + r ∧ vi = .int .i64 j ∧ Hid (Lr w wr q5 p (Value.slice ai rs.length ci) rs r ex5 x5 d5)) (fun vi _ _ _ => r + 1 - (intOf vi).toNat)
        case atStart => exact ⟨1, Nat.le_refl _, by omega, by go_num, H8⟩
        case round =>
          obtain ⟨j, hj1, hj, rfl, HO2⟩ := hrel
          have h13 := hide ((unhide NX) wr (unhide HO2))
          by_cases hlt2 : j < 1 + r
          · have hji : (j : Int) < (n1 : Int) := by omega
            have hjl : j - 1 < rs.length := by omega
            have h14 := hide (fun W (hb : Bel wr W) => ((unhide HO2).up hb).at hr100 hrl (j - 1) (by omega))
            rw [show 1 + (j - 1) = j by omega] at h14
            obtain ⟨_, _, hai, _, hai2⟩ := own_shape (own_since (unhide HO2).own (Nat.zero_le _))
            obtain ⟨g5, hg5⟩ := hai2 (by omega)
            cases hai
            subst hg5
            have X0 : Hid (∀ W, Bel wr W → W.cell? ⟨g5, j - 1, none⟩ = some (.string ⟨rs[j - 1].toArray⟩)) := fun W hb => by
              rw [((unhide HO2).up hb).own.cellAt (j - 1) (by omega)]
              simp [hjl, vS]
            have e3 : IntKind.i64.wrap ((j : Int) - 1) = ((j - 1 : Nat) : Int) := by rw [wrapI (by omega) (by omega)]; omega
            generalize rs[j - 1] = sj at h14 X0
            go_wp2_with (first
              | (go_at_call 13; refine (unhide h13).mono ?_; rintro e w9 ⟨rfl, hb9⟩)
              | (go_at_call 14; refine ((unhide h14) _ hb9).mono ?_; rintro e w10 ⟨rfl, hb10⟩; have hb11 := hb9.trans hb10; have x1 := (unhide X0) w10 hb11))
            go_roundw
            case rel => exact ⟨j + 1, by omega, by omega, by go_num, (unhide HO2).up hb11⟩
            case measure => simp [intOf]; omega
          · have hji : ¬ (j : Int) < (n1 : Int) := by omega
            go_wp2_with (first
              | (go_at_call 13; refine (unhide h13).mono ?_; rintro e w9 ⟨rfl, hb9⟩; have H9 := hide (lr_copy ((unhide HO2).up hb9)))
              | (go_at_call 15; refine (unhide H9).mono ?_; rintro e w10 ⟨pc, rfl, h10⟩; have H10 := hide (ls_open h10 (unhide HG) hrl); clear h10))
            refine (unhide H10).mono ?_
            rintro e w11 ⟨q11, rfl, x11, h11⟩
            have H11 := hide h11
            have NX2 := hide h11.next2
            have N1 := hide (fun W hb => (h11.up (W' := W) hb).next1)
            have S1 := hide (fun W hb => (h11.up (W' := W) hb).same)
            have A1 := hide (fun W (hb : Bel w11 W) => alive_any W ((unhide HG).next (h11.a.bel.trans hb)))
            clear h11
            go_wp2_with fail
            refine (unhide NX2).mono ?_
            rintro e w12 ⟨rfl, hb12⟩
            go_wp2_with fail
            refine ((unhide N1) w12 hb12).mono ?_
            rintro e w13 ⟨rfl, hb13⟩
            have hc13 := hb12.trans hb13
            go_wp2_with fail
            refine ((unhide S1) w13 hc13).mono ?_
            rintro e w14 ⟨rfl, hb14⟩
            have hc14 := hc13.trans hb14
            go_wp2_with fail
            refine ((unhide A1) w14 hc14).mono ?_
            rintro e w15 ⟨rfl, hb15⟩
            have hc15 := hc14.trans hb15
            go_wp2_with fail
            go_ret
            exact ⟨rfl, (unhide H11).a.bel.trans hc15⟩
      · go_wp2_with (go_at_call 11; refine (unhide h11).mono ?_; rintro e w3 ⟨rfl, hw3⟩; rw [hw3]; clear hw3)
        rw [keep_arg L k0]
        have hKL : k0 % (L + 1) ≤ L := by have := Nat.mod_lt k0 (show 0 < L + 1 by omega); omega
        generalize k0 % (L + 1) = K at hKL
        refine ((unhide h10) K hKL).mono ?_
        rintro e w4 ⟨rfl, r, t, ex, d4, hsr, hrl, hq⟩
        have HQ := hide hq
        clear hq h10 h11
        go_wp2_with fail
        refine (lq_open (unhide HQ) (unhide HG) hrl).mono ?_
        rintro e w5 ⟨q5, rfl, x5, d5, ex5, hr5⟩
        have H5 := hide hr5
        have hr100 : r ≤ 100 := by have := hr5.le; omega
        clear hr5 HQ
        have hc1 : ¬ (r : Int) < (s : Int) := by omega
        have hc2 : ¬ (rs.length : Int) < (r : Int) := by omega
        obtain ⟨n1, hn1⟩ : ∃ z, z = 1 + r := ⟨_, rfl⟩
        have NX : Hid (∀ W, Lr w W q5 p (Value.slice ai rs.length ci) rs r ex5 x5 d5 → Calls Tryz.prog 13 #[.pointer (some ⟨q5, 0, none⟩)] W fun e w' => e = .returned (.int .i64 (n1 : Int)) ∧ Bel W w') := fun W h => by
          rw [hn1]; exact h.next hr100
        have e1 : IntKind.i64.wrap ((n1 : Int) - 1) = (r : Int) := by rw [wrapI (by omega) (by omega)]; omega
        go_wp2_with (first
          | (go_at_call 12; refine ((unhide H5).first hr100).mono ?_; rintro e w6 ⟨rfl, hw6⟩; rw [hw6]; clear hw6)
          | (go_at_call 13; refine ((unhide NX) w7 (unhide H7)).mono ?_; rintro e w8 ⟨rfl, hb8⟩; have H8 := hide ((unhide H7).up hb8); clear hb8)
          | (go_at_call 13; refine ((unhide NX) w5 (unhide H5)).mono ?_; rintro e w7 ⟨rfl, hb7⟩; have H7 := hide ((unhide H5).up hb7); clear hb7))
        go_loopw [17, 18, 19] (fun vi _ _ wr => ∃ j : Nat, 1 ≤ j ∧ j ≤ 1 + r ∧ vi = .int .i64 j ∧ Hid (Lr w wr q5 p (Value.slice ai rs.length ci) rs r ex5 x5 d5)) (fun vi _ _ _ => r + 1 - (intOf vi).toNat)
        case atStart => exact ⟨1, Nat.le_refl _, by omega, by go_num, H8⟩
        case round =>
          obtain ⟨j, hj1, hj, rfl, HO2⟩ := hrel
          have h13 := hide ((unhide NX) wr (unhide HO2))
          by_cases hlt2 : j < 1 + r
          · have hji : (j : Int) < (n1 : Int) := by omega
            have hjl : j - 1 < rs.length := by omega
            have h14 := hide (fun W (hb : Bel wr W) => ((unhide HO2).up hb).at hr100 hrl (j - 1) (by omega))
            rw [show 1 + (j - 1) = j by omega] at h14
            obtain ⟨_, _, hai, _, hai2⟩ := own_shape (own_since (unhide HO2).own (Nat.zero_le _))
            obtain ⟨g5, hg5⟩ := hai2 (by omega)
            cases hai
            subst hg5
            have X0 : Hid (∀ W, Bel wr W → W.cell? ⟨g5, j - 1, none⟩ = some (.string ⟨rs[j - 1].toArray⟩)) := fun W hb => by
              rw [((unhide HO2).up hb).own.cellAt (j - 1) (by omega)]
              simp [hjl, vS]
            have e3 : IntKind.i64.wrap ((j : Int) - 1) = ((j - 1 : Nat) : Int) := by rw [wrapI (by omega) (by omega)]; omega
            generalize rs[j - 1] = sj at h14 X0
            go_wp2_with (first
              | (go_at_call 13; refine (unhide h13).mono ?_; rintro e w9 ⟨rfl, hb9⟩)
              | (go_at_call 14; refine ((unhide h14) _ hb9).mono ?_; rintro e w10 ⟨rfl, hb10⟩; have hb11 := hb9.trans hb10; have x1 := (unhide X0) w10 hb11))
            go_roundw
            case rel => exact ⟨j + 1, by omega, by omega, by go_num, (unhide HO2).up hb11⟩
            case measure => simp [intOf]; omega
          · have hji : ¬ (j : Int) < (n1 : Int) := by omega
            go_wp2_with (first
              | (go_at_call 13; refine (unhide h13).mono ?_; rintro e w9 ⟨rfl, hb9⟩; have H9 := hide (lr_copy ((unhide HO2).up hb9)))
              | (go_at_call 15; refine (unhide H9).mono ?_; rintro e w10 ⟨pc, rfl, h10⟩; have H10 := hide (ls_open h10 (unhide HG) hrl); clear h10))
            refine (unhide H10).mono ?_
            rintro e w11 ⟨q11, rfl, x11, h11⟩
            have H11 := hide h11
            have NX2 := hide h11.next2
            have N1 := hide (fun W hb => (h11.up (W' := W) hb).next1)
            have S1 := hide (fun W hb => (h11.up (W' := W) hb).same)
            have A1 := hide (fun W (hb : Bel w11 W) => alive_any W ((unhide HG).next (h11.a.bel.trans hb)))
            clear h11
            go_wp2_with fail
            refine (unhide NX2).mono ?_
            rintro e w12 ⟨rfl, hb12⟩
            go_wp2_with fail
            refine ((unhide N1) w12 hb12).mono ?_
            rintro e w13 ⟨rfl, hb13⟩
            have hc13 := hb12.trans hb13
            go_wp2_with fail
            refine ((unhide S1) w13 hc13).mono ?_
            rintro e w14 ⟨rfl, hb14⟩
            have hc14 := hc13.trans hb14
            go_wp2_with fail
            refine ((unhide A1) w14 hc14).mono ?_
            rintro e w15 ⟨rfl, hb15⟩
            have hc15 := hc14.trans hb15
            go_wp2_with fail
            go_ret
            exact ⟨rfl, (unhide H11).a.bel.trans hc15⟩
end Go.Proofs.YtgimciacapfbfaaGreatDoor
