/- The law ValueOrders walked, where the first value may not be. -/
import Derived.Test.YtomnajoflcjnfaaDoorOrdJ
namespace Go.Proofs.YtomnajoflcjnfaaDoor
open Go.RowKit Go.Sort
set_option linter.unusedVariables false
set_option maxHeartbeats 16000000 in
set_option maxRecDepth 100000 in
theorem orders_2 (k : Int) (b : Bool) (n : Int) (s : ByteArray) (u : Int) (k' : Int) (b' : Bool) (n' : Int) (s' : ByteArray) (u' : Int) (h : ¬ mayV k b n s u) (l : List V) (v : Value) (w : World) (hr : RV w v l) (hU : ∀ x ∈ l, okU0 x) (hG : Gl w) :
    Calls Tryd.prog 5 #[ev k b n s u, ev k' b' n' s' u', v] w fun e w' => e = .returned (.bool true) ∧ Bel w w' := by
  have HS1 := hide ((S5.first k b n s u w).alloc (.cells #[.int .u8 k', .bool b', .int .i64 n', .string s', .int .u64 u'] 25))
  have HS2 := hide (S5.second k' b' n' s' u' w (.cells #[.int .u8 k, .bool b, .int .i64 n, .string s, .int .u64 u] 25))
  have HB00 := hide (((Bel.refl w).alloc (.cells #[.int .u8 k, .bool b, .int .i64 n, .string s, .int .u64 u] 25)).alloc (.cells #[.int .u8 k', .bool b', .int .i64 n', .string s', .int .u64 u'] 25))
  have HR := hide hr
  have HG := hide hG
  have HU := hide hU
  have C12 := hide (fun W hW => alive_any W hW)
  obtain ⟨a, cap, hv, hcap, _⟩ := hr
  subst hv
  clear hG hU
  by_cases hbig : 200 < l.length
  · have hbi : (200 : Int) < (l.length : Int) := by omega
    have C19 := hide (fun W => cmp_no1 h k' b' n' s' u' W)
    have C8 := hide (fun W => rmay_no h W)
    clear h
    unfold ev at C19 C8 ⊢
    go_enter Tryd.func5, Tryd.ntmps5
    go_wp2_with fail
    refine (C19.out _).mono ?_
    rintro e w1 ⟨rfl, hb1⟩
    obtain ⟨a0, a1, a2, a3, a4⟩ := HS1.out.next hb1
    have HB1 := hide (HB00.out.trans hb1)
    clear hb1
    go_wp2_with fail
    refine (C8.out _).mono ?_
    rintro e W0 ⟨rfl, hb2⟩
    have HB0 := hide (HB1.out.trans hb2)
    clear hb2 a0 a1 a2 a3 a4 HB1 HB00 HS1 HS2 C19 C8
    go_wp2_with (go_at_call 12; refine (C12.out _ (HG.out.next HB0.out)).mono ?_; rintro e wz ⟨rfl, hbz⟩)
    go_ret
    exact ⟨rfl, HB0.out.trans hbz⟩
  · have hbi : (l.length : Int) ≤ 200 := by omega
    by_cases hl0 : l.length = 0
    · have HL0 := hide hl0
      clear hl0
      have C19 := hide (fun W => cmp_no1 h k' b' n' s' u' W)
      have C8 := hide (fun W => rmay_no h W)
      clear h
      unfold ev at C19 C8 ⊢
      go_enter Tryd.func5, Tryd.ntmps5
      go_wp2_with fail
      refine (C19.out _).mono ?_
      rintro e w1 ⟨rfl, hb1⟩
      obtain ⟨a0, a1, a2, a3, a4⟩ := HS1.out.next hb1
      have HB1 := hide (HB00.out.trans hb1)
      clear hb1
      go_wp2_with fail
      refine (C8.out _).mono ?_
      rintro e W0 ⟨rfl, hb2⟩
      have HB0 := hide (HB1.out.trans hb2)
      clear hb2 a0 a1 a2 a3 a4 HB1 HB00 HS1 HS2 C19 C8
      go_wp2_with (at_builtin; refine app_none HL0.out rfl _ _ rfl rfl rfl ?_)
      have HB5 := HB0
      have HO5 : Hid (W0.ownsRow W0.heap.size 25 5 (.slice none 0 0) l.length (cel enc5 5 l)) := hide (by
        obtain rfl : l = [] := List.length_eq_zero_iff.1 HL0.out
        have e : cel enc5 5 ([] : List V) = [] := by simp [cel, flatK]
        rw [e]
        exact World.ownsRow_nil _ _ _ _)
      have C21 := hide (sort_any l (.slice none 0 0) _ W0 HO5.out (by omega))
      refine C21.out.mono ?_
      rintro e w6 ⟨vs, q, er, rfl, hRs, hb6, hans⟩
      have HB6 := hide (HB5.out.trans hb6)
      have HANS := hide hans
      have HRS0 := hide hRs
      have HRK := hide ((own_rv HO5.out).next hb6)
      have HRL := hide (HR.out.next HB6.out)
      obtain ⟨sa0, cs0, hvs, hcs, _⟩ := hRs
      subst hvs
      clear hb6 hans C21 HB5
      go_wp2_with fail
      go_loopw [12, 13] (fun bv iv W => ∃ i : Nat, ∃ bb : Bool, i ≤ l.length ∧ iv = .int .i64 i ∧ bv = .bool bb ∧ badB l i bb ∧ Bel w6 W) (fun _ iv _ => l.length - (intOf iv).toNat)
      case atStart => exact ⟨0, false, Nat.zero_le _, rfl, rfl, badB.start l, Bel.refl _⟩
      case round =>
        obtain ⟨i, bb, hi, rfl, rfl, hbad, hbi⟩ := hrel
        have HBAD := hide hbad
        have HBI := hide hbi
        clear hbad hbi
        by_cases hlt : i < l.length
        · have := HL0.out
          omega
        · obtain rfl : i = l.length := by omega
          have HW := hide (HB6.out.trans HBI.out)
          rcases HANS.out with ⟨hbad, hq, her⟩ | ⟨hgood, her, hrq, hmq⟩
          · obtain rfl : bb = true := HBAD.out.2 (by rw [List.take_length]; exact hbad)
            subst hq
            subst her
            clear hbad
            go_wp2_with (go_at_call 12; refine (C12.out _ (HG.out.next HW.out)).mono ?_; rintro e wz ⟨rfl, hbz⟩)
            go_ret
            exact ⟨rfl, HW.out.trans hbz⟩
          · obtain rfl : bb = false := by
              cases bb with
              | false => rfl
              | true =>
                obtain ⟨x, hx, hm⟩ := HBAD.out.1 rfl
                exact absurd (hgood x (List.mem_of_mem_take hx)) hm
            subst her
            have C22 := hide (dsort_any l _ _ (HRL.out.next HBI.out) (by omega) hgood)
            have HRQ := hide hrq
            have HMQ := hide hmq
            clear hgood hrq hmq
            go_wp2_with fail
            refine C22.out.mono ?_
            rintro e w8 ⟨vt, q2, rfl, hRt, hb8, hr2, hm2⟩
            obtain rfl := risV_ext q q2 HRQ.out hr2 (fun x => (HMQ.out x).trans (hm2 x).symm)
            have HB8 := hide (HW.out.trans hb8)
            have HRS8 := hide ((HRS0.out.next HBI.out).next hb8)
            have HRT := hide hRt
            obtain ⟨ta0, ct0, hvt, hct, _⟩ := hRt
            subst hvt
            have hqs : q.length ≤ 200 := by
              have h0 := HMQ.out
              have h1 := risV_len q l HRQ.out (fun x hx => (h0 x).1 hx)
              omega
            clear hr2 hm2 hb8 C22
            go_wp2_with fail
            go_loopw [15] (fun iv W => ∃ i : Nat, i ≤ q.length ∧ iv = .int .i64 i ∧ Bel w8 W) (fun iv _ => q.length - (intOf iv).toNat)
            case atStart => exact ⟨0, Nat.zero_le _, rfl, Bel.refl _⟩
            case round =>
              obtain ⟨j, hj, rfl, hbj⟩ := hrel
              have HBJ := hide hbj
              clear hbj
              by_cases hltj : j < q.length
              · have hne : q ≠ [] := fun e => by rw [e] at hltj; simp at hltj
                obtain ⟨gs, sof, es, hcs2⟩ := HRS8.out.five hne
                obtain ⟨gt, tof, et, hct2⟩ := HRT.out.five hne
                subst es
                subst et
                obtain ⟨kx, bx, nx, sx, ux, hx⟩ : ∃ kx bx nx sx ux, q[j] = (kx, bx, nx, sx, ux) := ⟨_, _, _, _, _, rfl⟩
                obtain ⟨x0, x1, x2, x3, x4⟩ := five_of (hcs2 _ HBJ.out) hltj hx
                obtain ⟨y0, y1, y2, y3, y4⟩ := five_of (hct2 _ HBJ.out) hltj hx
                clear hx hcs2 hct2 hne
                go_wp2_with fail
                go_quiet (fail)
                go_wp2_with fail
                go_roundw
                case rel => exact ⟨j + 1, by omega, by go_num, bel_drewN HBJ.out _⟩
                case measure => simp [intOf]; omega
              · have HWZ := hide (HB8.out.trans HBJ.out)
                obtain rfl : j = q.length := by omega
                go_wp2_with (go_at_call 12; refine (C12.out _ (HG.out.next HWZ.out)).mono ?_; rintro e wz ⟨rfl, hbz⟩)
                go_ret
                exact ⟨rfl, HWZ.out.trans hbz⟩
    · have hl1 : 0 < l.length := by omega
      have hne0 : l ≠ [] := fun e => by rw [e] at hl0; simp at hl0
      obtain ⟨gl0, ol0, rfl, hcl0⟩ := HR.out.five hne0
      have HCL := hide hcl0
      clear hcl0 hne0 hl0
      have C19 := hide (fun W => cmp_no1 h k' b' n' s' u' W)
      have C8 := hide (fun W => rmay_no h W)
      clear h
      unfold ev at C19 C8 ⊢
      go_enter Tryd.func5, Tryd.ntmps5
      go_wp2_with fail
      refine (C19.out _).mono ?_
      rintro e w1 ⟨rfl, hb1⟩
      obtain ⟨a0, a1, a2, a3, a4⟩ := HS1.out.next hb1
      have HB1 := hide (HB00.out.trans hb1)
      clear hb1
      go_wp2_with fail
      refine (C8.out _).mono ?_
      rintro e W0 ⟨rfl, hb2⟩
      have HB0 := hide (HB1.out.trans hb2)
      clear hb2 a0 a1 a2 a3 a4 HB1 HB00 HS1 HS2 C19 C8
      go_wp2_with (at_builtin; refine app_own (HCL.out _ HB0.out) (by omega) hl1 rfl _ _ rfl rfl rfl ?_; intro gk0 ck0 w5 hown5 hb5; have HO5 := hide hown5; have HB5 := hide (HB0.out.trans hb5); clear hown5 hb5)
      have C21 := hide (sort_any l (.slice (some ⟨gk0, 0, none⟩) l.length ck0) _ w5 HO5.out (by omega))
      refine C21.out.mono ?_
      rintro e w6 ⟨vs, q, er, rfl, hRs, hb6, hans⟩
      have HB6 := hide (HB5.out.trans hb6)
      have HANS := hide hans
      have HRS0 := hide hRs
      have HRK := hide ((own_rv HO5.out).next hb6)
      have HRL := hide (HR.out.next HB6.out)
      obtain ⟨sa0, cs0, hvs, hcs, _⟩ := hRs
      subst hvs
      clear hb6 hans C21 HB5
      go_wp2_with fail
      go_loopw [12, 13] (fun bv iv W => ∃ i : Nat, ∃ bb : Bool, i ≤ l.length ∧ iv = .int .i64 i ∧ bv = .bool bb ∧ badB l i bb ∧ Bel w6 W) (fun _ iv _ => l.length - (intOf iv).toNat)
      case atStart => exact ⟨0, false, Nat.zero_le _, rfl, rfl, badB.start l, Bel.refl _⟩
      case round =>
        obtain ⟨i, bb, hi, rfl, rfl, hbad, hbi⟩ := hrel
        have HBAD := hide hbad
        have HBI := hide hbi
        clear hbad hbi
        by_cases hlt : i < l.length
        · have hne : l ≠ [] := fun e => by rw [e] at hlt; simp at hlt
          obtain ⟨gl, ol, ea, hcl⟩ := HRL.out.five hne
          obtain ⟨gk, ok, ek, hck⟩ := HRK.out.five hne
          obtain ⟨rfl, rfl⟩ : gl = gl0 ∧ ol = ol0 := by injection ea with ea; injection ea with e1 e2; exact ⟨e1.symm, e2.symm⟩
          obtain ⟨rfl, rfl⟩ : gk = gk0 ∧ ok = 0 := by injection ek with ek; injection ek with e1 e2; exact ⟨e1.symm, e2.symm⟩
          obtain ⟨kx, bx, nx, sx, ux, hx⟩ : ∃ kx bx nx sx ux, l[i] = (kx, bx, nx, sx, ux) := ⟨_, _, _, _, _, rfl⟩
          have HX := hide (fun (W : World) (hb : Bel w6 W) => five_of (hcl W hb) hlt hx)
          have HK := hide (fun (W : World) (hb : Bel w6 W) => five_zero (five_of (hck W hb) hlt hx))
          have HXL := hide hx
          have hux : 0 ≤ ux := by have h0 := HU.out _ (List.getElem_mem hlt); rw [hx] at h0; exact h0
          clear hx hcl hck hne
          cases bb with
          | true =>
            have HBD := hide (HBAD.out.stay hlt)
            obtain ⟨x0, x1, x2, x3, x4⟩ := HX.out _ HBI.out
            obtain ⟨y0, y1, y2, y3, y4⟩ := HK.out _ HBI.out
            go_wp2_with fail
            go_quiet (fail)
            go_wp2_with fail
            go_roundw
            case rel => exact ⟨i + 1, true, by omega, by go_num, rfl, HBD.out, bel_drewN HBI.out _⟩
            case measure => simp [intOf]; omega
          | false =>
            obtain ⟨x0, x1, x2, x3, x4⟩ := HX.out _ HBI.out
            by_cases hmx : mayV kx bx nx sx ux
            · have HBD := hide (HBAD.out.good hlt (by rw [HXL.out]; exact hmx))
              have C8x := hide (fun W => rmay_yes hmx hux W)
              unfold ev at C8x
              clear hmx
              go_wp2_with fail
              refine (C8x.out _).mono ?_
              rintro e w7 ⟨rfl, hb7⟩
              have HB7 := hide (HBI.out.trans hb7)
              clear hb7 x0 x1 x2 x3 x4
              obtain ⟨x0, x1, x2, x3, x4⟩ := HX.out _ HB7.out
              obtain ⟨y0, y1, y2, y3, y4⟩ := HK.out _ HB7.out
              go_wp2_with fail
              go_quiet (fail)
              go_wp2_with fail
              go_roundw
              case rel => exact ⟨i + 1, false, by omega, by go_num, rfl, HBD.out, bel_drewN HB7.out _⟩
              case measure => simp [intOf]; omega
            · have HBD := hide (badB.bad hlt (show ¬ mayx l[i] by rw [HXL.out]; exact hmx))
              have C8x := hide (fun W => rmay_no hmx W)
              unfold ev at C8x
              clear hmx
              go_wp2_with fail
              refine (C8x.out _).mono ?_
              rintro e w7 ⟨rfl, hb7⟩
              have HB7 := hide (HBI.out.trans hb7)
              clear hb7 x0 x1 x2 x3 x4
              obtain ⟨x0, x1, x2, x3, x4⟩ := HX.out _ HB7.out
              obtain ⟨y0, y1, y2, y3, y4⟩ := HK.out _ HB7.out
              go_wp2_with fail
              go_quiet (fail)
              go_wp2_with fail
              go_roundw
              case rel => exact ⟨i + 1, true, by omega, by go_num, rfl, HBD.out, bel_drewN HB7.out _⟩
              case measure => simp [intOf]; omega
        · obtain rfl : i = l.length := by omega
          have HW := hide (HB6.out.trans HBI.out)
          rcases HANS.out with ⟨hbad, hq, her⟩ | ⟨hgood, her, hrq, hmq⟩
          · obtain rfl : bb = true := HBAD.out.2 (by rw [List.take_length]; exact hbad)
            subst hq
            subst her
            clear hbad
            go_wp2_with (go_at_call 12; refine (C12.out _ (HG.out.next HW.out)).mono ?_; rintro e wz ⟨rfl, hbz⟩)
            go_ret
            exact ⟨rfl, HW.out.trans hbz⟩
          · obtain rfl : bb = false := by
              cases bb with
              | false => rfl
              | true =>
                obtain ⟨x, hx, hm⟩ := HBAD.out.1 rfl
                exact absurd (hgood x (List.mem_of_mem_take hx)) hm
            subst her
            have C22 := hide (dsort_any l _ _ (HRL.out.next HBI.out) (by omega) hgood)
            have HRQ := hide hrq
            have HMQ := hide hmq
            clear hgood hrq hmq
            go_wp2_with fail
            refine C22.out.mono ?_
            rintro e w8 ⟨vt, q2, rfl, hRt, hb8, hr2, hm2⟩
            obtain rfl := risV_ext q q2 HRQ.out hr2 (fun x => (HMQ.out x).trans (hm2 x).symm)
            have HB8 := hide (HW.out.trans hb8)
            have HRS8 := hide ((HRS0.out.next HBI.out).next hb8)
            have HRT := hide hRt
            obtain ⟨ta0, ct0, hvt, hct, _⟩ := hRt
            subst hvt
            have hqs : q.length ≤ 200 := by
              have h0 := HMQ.out
              have h1 := risV_len q l HRQ.out (fun x hx => (h0 x).1 hx)
              omega
            clear hr2 hm2 hb8 C22
            go_wp2_with fail
            go_loopw [15] (fun iv W => ∃ i : Nat, i ≤ q.length ∧ iv = .int .i64 i ∧ Bel w8 W) (fun iv _ => q.length - (intOf iv).toNat)
            case atStart => exact ⟨0, Nat.zero_le _, rfl, Bel.refl _⟩
            case round =>
              obtain ⟨j, hj, rfl, hbj⟩ := hrel
              have HBJ := hide hbj
              clear hbj
              by_cases hltj : j < q.length
              · have hne : q ≠ [] := fun e => by rw [e] at hltj; simp at hltj
                obtain ⟨gs, sof, es, hcs2⟩ := HRS8.out.five hne
                obtain ⟨gt, tof, et, hct2⟩ := HRT.out.five hne
                subst es
                subst et
                obtain ⟨kx, bx, nx, sx, ux, hx⟩ : ∃ kx bx nx sx ux, q[j] = (kx, bx, nx, sx, ux) := ⟨_, _, _, _, _, rfl⟩
                obtain ⟨x0, x1, x2, x3, x4⟩ := five_of (hcs2 _ HBJ.out) hltj hx
                obtain ⟨y0, y1, y2, y3, y4⟩ := five_of (hct2 _ HBJ.out) hltj hx
                clear hx hcs2 hct2 hne
                go_wp2_with fail
                go_quiet (fail)
                go_wp2_with fail
                go_roundw
                case rel => exact ⟨j + 1, by omega, by go_num, bel_drewN HBJ.out _⟩
                case measure => simp [intOf]; omega
              · have HWZ := hide (HB8.out.trans HBJ.out)
                obtain rfl : j = q.length := by omega
                go_wp2_with (go_at_call 12; refine (C12.out _ (HG.out.next HWZ.out)).mono ?_; rintro e wz ⟨rfl, hbz⟩)
                go_ret
                exact ⟨rfl, HWZ.out.trans hbz⟩
end Go.Proofs.YtomnajoflcjnfaaDoor
