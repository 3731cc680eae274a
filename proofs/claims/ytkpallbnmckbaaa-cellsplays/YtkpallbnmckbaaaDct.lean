/- The document's Trim. -/
import Derived.Test.YtkpallbnmckbaaaDcs
import Derived.Test.YtkpallbnmckbaaaDcl
namespace Go.Proofs.Ytkpallbnmckbaaa
open Go.RowKit
/-- What the document's Trim has met, at a place. -/
def mt (below : Int) (L : List C) (k : Nat) : Bool := match (L.take k).getLast? with
  | none => false
  | some y => dead below (L.take k) y
theorem mt_next (below : Int) {L : List C} {k : Nat} (hk : k < L.length) : mt below L (k + 1) = (dead below (L.take k) L[k] || decide (L[k].t ≤ below)) := by
  unfold mt
  rw [take_one L k hk]
  simp only [List.getLast?_append, List.getLast?_singleton, Option.some_or]
  exact dead_snoc _ _ _
theorem srt_at {L : List C} (hs : Srt L) {k : Nat} (hk : k < L.length) : Srt (L.take k ++ L[k] :: L.drop (k + 1)) := by
  rw [← List.drop_eq_getElem_cons hk, List.take_append_drop]; exact hs
theorem last_at {L : List C} {m : Nat} (hm : m < L.length) : (L.take (m + 1)).getLast? = some L[m] := by
  rw [take_one L m hm, List.getLast?_append]; rfl
theorem mt_same (below : Int) {L : List C} {m : Nat} (hm : m + 1 < L.length) (h : (L[m]'(by omega)).k = L[m + 1].k) : mt below L (m + 1) = dead below (L.take (m + 1)) L[m + 1] := by
  unfold mt
  rw [last_at (by omega)]
  exact dead_key h
theorem dead_diff (below : Int) {L : List C} (hs : Srt L) {m : Nat} (hm : m + 1 < L.length) (h : (L[m]'(by omega)).k ≠ L[m + 1].k) : dead below (L.take (m + 1)) L[m + 1] = false :=
  fresh_dead below (srt_at hs hm) (fun y hy => by rw [last_at (by omega)] at hy; cases hy; exact h)
theorem dead_old {below : Int} {L : List C} (hs : Srt L) {k : Nat} (hk : k < L.length) (h : dead below (L.take k) L[k] = true) : L[k].t ≤ below := by
  obtain ⟨z, hz, e1, e2⟩ := dead_iff.1 h
  have := (ahead (srt_at hs hk)).1 z hz
  have := (cmp_same e1).1 this
  omega
theorem trf_step (below : Int) {L : List C} {k : Nat} (hk : k < L.length) : trF below (L.take k) (L.drop k) = (if dead below (L.take k) L[k] = false ∧ (below < L[k].t ∨ L[k].d = false) then [L[k]] else []) ++ trF below (L.take (k + 1)) (L.drop (k + 1)) := by
  rw [List.drop_eq_getElem_cons hk, take_one L k hk]
  show (if _ then _ else _) = _
  split <;> simp_all
set_option maxRecDepth 100000 in
set_option maxHeartbeats 8000000 in
theorem dtrim_any {W : World} {v : Value} {L : List C} (below : Int) (h : RV W v L) (hs : Srt L) (hl : L.length ≤ 800000) : Calls Try.prog 11 #[v, .int .u64 below] W fun e w' => ∃ v', e = .returned v' ∧ Bel W w' ∧ SV w' v' (trm below L) := by
  obtain ⟨a, cap, g, off, rfl, ha, hr, hcap⟩ := h
  have hfu := Try.follows
  have HR := hide hr
  have HA := hide ha
  have HS := hide hs
  obtain ⟨N, hN⟩ : ∃ N, L.length = N := ⟨_, rfl⟩
  have HN := hide hN
  rw [hN] at hl ⊢
  clear hr ha hN hcap hs
  go_enter Try.func11, Try.ntmps11
  go_wp2_with fail
  go_loopw [5, 6, 7] (fun v5 v6 vi wr => ∃ k : Nat, k ≤ N ∧ vi = .int .i64 k ∧ v6 = .bool (mt below L k) ∧ Hid (Bel W wr) ∧ ∃ X : List C, X.length ≤ k ∧ Hid (OR W.heap.size wr v5 X) ∧ Hid (X ++ trF below (L.take k) (L.drop k) = trm below L)) (fun _ _ vi _ => N - (intOf vi).toNat)
  case atStart => exact ⟨0, Nat.zero_le _, rfl, rfl, Bel.refl _, [], Nat.le_refl _, OR.nil _ _, by simp [Hid, trm]⟩
  case round =>
    rename_i wr
    obtain ⟨k, hk, rfl, rfl, HB, X, hX, HO, HT⟩ := hrel
    by_cases hlt : k < N
    · have hkl : k < L.length := by rw [HN.out]; exact hlt
      obtain rfl := HA.out (by omega)
      have hki : (k : Int) < (N : Int) := by omega
      have hne := BelBy.some wr
      have HSTEP := hide (trf_step below hkl)
      have HMN := hide (mt_next below hkl)
      have HOLD := hide (dead_old (below := below) (unhide HS) hkl)
      obtain ⟨x0, x1, x2, x3⟩ := N4.row ((unhide HR).bel (unhide HB)) hkl
      by_cases h0 : k = 0
      · have HD : Hid (dead below (L.take k) L[k] = false) := hide (by subst h0; rfl)
        have hm : mt below L k = false := by subst h0; rfl
        rw [hm]
        generalize hxx : L[k] = x at *
        obtain ⟨xk, xt, xd, xv⟩ := x
        have HXX := hide hxx
        simp only [C.k, C.t, C.d, C.v] at x0 x1 x2 x3
        have hke : ((k : Int) == 0) = true := by rw [h0]; rfl
        have H0 := hide h0
        clear hxx hm h0
        by_cases hto : xt ≤ below
        · cases xd with
          | true =>
            have HT2 : Hid (X ++ trF below (L.take (k + 1)) (L.drop (k + 1)) = trm below L) := hide (by rw [← HT.out, HSTEP.out, if_neg (fun h => by simp [C.t, C.d] at h; omega)]; rfl)
            have HMT : Hid (mt below L (k + 1) = true) := hide (by rw [HMN.out]; simp [HD.out, C.t, hto])
            go_wp2_with fail
            refine wp_region_bel hfu (by kernel_rfl) ?_
            repeat (go_big_quiet_step (fail))
            refine wpQuiet_nil ?_
            rintro W1 ⟨p1, rfl⟩
            have HW1 := hide ((unhide HB).trans p1.h)
            have HO1 := hide ((unhide HO).bel p1.h)
            have z0 := x0 p1
            have z1 := x1 p1
            have z2 := x2 p1
            have z3 := x3 p1
            generalize p1.W = W1 at HW1 HO1 z0 z1 z2 z3 ⊢
            clear x0 x1 x2 x3
            go_wp2_with fail
            exact ⟨⟨k + 1, by omega, by go_num, by simp [HMT.out], HW1, X, by omega, HO1, HT2⟩, by simp [intOf]; omega⟩
          | false =>
            have HT2 : Hid (X ++ [(xk, xt, false, xv)] ++ trF below (L.take (k + 1)) (L.drop (k + 1)) = trm below L) := hide (by rw [← HT.out, HSTEP.out, if_pos ⟨HD.out, Or.inr rfl⟩, List.append_assoc])
            have HMT : Hid (mt below L (k + 1) = true) := hide (by rw [HMN.out]; simp [HD.out, C.t, hto])
            go_wp2_with fail
            refine wp_region_bel hfu (by kernel_rfl) ?_
            repeat (go_big_quiet_step (fail))
            refine wpQuiet_nil ?_
            rintro W1 ⟨p1, rfl⟩
            have HW1 := hide ((unhide HB).trans p1.h)
            have HO1 := hide ((unhide HO).bel p1.h)
            have z0 := x0 p1
            have z1 := x1 p1
            have z2 := x2 p1
            have z3 := x3 p1
            generalize p1.W = W1 at HW1 HO1 z0 z1 z2 z3 ⊢
            clear x0 x1 x2 x3
            go_wp2_with (at_builtin; refine app_one (xk, xt, false, xv) (unhide HO1) (unhide HW1).size (by omega) rfl _ _ rfl rfl _ (by simp) rfl ?_; intro g3 cap3 w3 ho3 hg3 hat3; have HO3 := hide ho3; have HB3 : Hid (Bel W w3) := hide (Below.trans ((unhide HW1).trans ((Bel.refl _).alloc _)) (grown_bel hg3 (Nat.le_trans (unhide HW1).size (by simp)) (fun k hk => ((unhide HO1).lt hk).1))); clear ho3 hg3 hat3)
            exact ⟨⟨k + 1, by omega, by go_num, by simp [HMT.out], HB3, X ++ [(xk, xt, false, xv)], by simp; omega, HO3, HT2⟩, by simp [intOf]; omega⟩
        · have HT2 : Hid (X ++ [(xk, xt, xd, xv)] ++ trF below (L.take (k + 1)) (L.drop (k + 1)) = trm below L) := hide (by rw [← HT.out, HSTEP.out, if_pos ⟨HD.out, Or.inl (show below < xt by omega)⟩, List.append_assoc])
          have HMT : Hid (mt below L (k + 1) = false) := hide (by rw [HMN.out]; simp [HD.out, C.t, hto])
          go_wp2_with fail
          refine wp_region_bel hfu (by kernel_rfl) ?_
          repeat (go_big_quiet_step (fail))
          refine wpQuiet_nil ?_
          rintro W1 ⟨p1, rfl⟩
          have HW1 := hide ((unhide HB).trans p1.h)
          have HO1 := hide ((unhide HO).bel p1.h)
          have z0 := x0 p1
          have z1 := x1 p1
          have z2 := x2 p1
          have z3 := x3 p1
          generalize p1.W = W1 at HW1 HO1 z0 z1 z2 z3 ⊢
          clear x0 x1 x2 x3
          go_wp2_with (at_builtin; refine app_one (xk, xt, xd, xv) (unhide HO1) (unhide HW1).size (by omega) rfl _ _ rfl rfl _ (by simp) rfl ?_; intro g3 cap3 w3 ho3 hg3 hat3; have HO3 := hide ho3; have HB3 : Hid (Bel W w3) := hide (Below.trans ((unhide HW1).trans ((Bel.refl _).alloc _)) (grown_bel hg3 (Nat.le_trans (unhide HW1).size (by simp)) (fun k hk => ((unhide HO1).lt hk).1))); clear ho3 hg3 hat3)
          exact ⟨⟨k + 1, by omega, by go_num, by simp [HMT.out], HB3, X ++ [(xk, xt, xd, xv)], by simp; omega, HO3, HT2⟩, by simp [intOf]; omega⟩
      · obtain ⟨m, rfl⟩ : ∃ m, k = m + 1 := ⟨k - 1, by omega⟩
        have hml : m < L.length := by omega
        have HDF := hide (dead_diff below (unhide HS) hkl)
        have HSM := hide (mt_same below hkl)
        obtain ⟨y0, _, _, _⟩ := N4.row ((unhide HR).bel (unhide HB)) hml
        have hw : IntKind.i64.wrap (((m + 1 : Nat) : Int) - 1) = (m : Int) := by rw [wrapI (by omega) (by omega)]; omega
        have hw1 : (m : Int) < (N : Int) := by omega
        have hw2 : (0 : Int) ≤ (m : Int) := by omega
        generalize hyy : (L[m]'hml).k = yk at *
        generalize hxx : L[m + 1] = x at *
        obtain ⟨xk, xt, xd, xv⟩ := x
        have HXX := hide hxx
        simp only [C.k, C.t, C.d, C.v] at x0 x1 x2 x3 HDF HSM
        clear hxx hyy h0
        by_cases hkk : yk = xk
        · have HM := hide (HSM.out hkk)
          rw [HM.out]
          subst hkk
          generalize hk0 : m + 1 = k at *
          have hke : ((k : Int) == 0) = false := by simp; omega
          have H0 := hide hk0
          clear hk0
          cases hdd : dead below (L.take k) (yk, xt, xd, xv) with
          | true =>
            have HD := hide hdd
            have hto : xt ≤ below := HOLD.out hdd
            clear HDF HSM HM hdd
            have HT2 : Hid (X ++ trF below (L.take (k + 1)) (L.drop (k + 1)) = trm below L) := hide (by rw [← HT.out, HSTEP.out, if_neg (fun h => by rw [HD.out] at h; exact absurd h.1 (by decide))]; rfl)
            have HMT : Hid (mt below L (k + 1) = true) := hide (by rw [HMN.out]; simp [HD.out, C.t, hto])
            go_wp2_with fail
            refine wp_region_bel hfu (by kernel_rfl) ?_
            repeat (go_big_quiet_step (fail))
            refine wpQuiet_nil ?_
            rintro W1 ⟨p1, rfl⟩
            have HW1 := hide ((unhide HB).trans p1.h)
            have HO1 := hide ((unhide HO).bel p1.h)
            have z0 := x0 p1
            have z1 := x1 p1
            have z2 := x2 p1
            have z3 := x3 p1
            generalize p1.W = W1 at HW1 HO1 z0 z1 z2 z3 ⊢
            clear x0 x1 x2 x3
            go_wp2_with fail
            exact ⟨⟨k + 1, by omega, by go_num, by simp [HMT.out], HW1, X, by omega, HO1, HT2⟩, by simp [intOf]; omega⟩
          | false =>
            have HD := hide hdd
            clear HDF HSM HM hdd
            by_cases hto : xt ≤ below
            · cases xd with
              | true =>
                have HT2 : Hid (X ++ trF below (L.take (k + 1)) (L.drop (k + 1)) = trm below L) := hide (by rw [← HT.out, HSTEP.out, if_neg (fun h => by simp [C.t, C.d] at h; omega)]; rfl)
                have HMT : Hid (mt below L (k + 1) = true) := hide (by rw [HMN.out]; simp [HD.out, C.t, hto])
                go_wp2_with fail
                refine wp_region_bel hfu (by kernel_rfl) ?_
                repeat (go_big_quiet_step (fail))
                refine wpQuiet_nil ?_
                rintro W1 ⟨p1, rfl⟩
                have HW1 := hide ((unhide HB).trans p1.h)
                have HO1 := hide ((unhide HO).bel p1.h)
                have z0 := x0 p1
                have z1 := x1 p1
                have z2 := x2 p1
                have z3 := x3 p1
                generalize p1.W = W1 at HW1 HO1 z0 z1 z2 z3 ⊢
                clear x0 x1 x2 x3
                go_wp2_with fail
                exact ⟨⟨k + 1, by omega, by go_num, by simp [HMT.out], HW1, X, by omega, HO1, HT2⟩, by simp [intOf]; omega⟩
              | false =>
                have HT2 : Hid (X ++ [(yk, xt, false, xv)] ++ trF below (L.take (k + 1)) (L.drop (k + 1)) = trm below L) := hide (by rw [← HT.out, HSTEP.out, if_pos ⟨HD.out, Or.inr rfl⟩, List.append_assoc])
                have HMT : Hid (mt below L (k + 1) = true) := hide (by rw [HMN.out]; simp [HD.out, C.t, hto])
                go_wp2_with fail
                refine wp_region_bel hfu (by kernel_rfl) ?_
                repeat (go_big_quiet_step (fail))
                refine wpQuiet_nil ?_
                rintro W1 ⟨p1, rfl⟩
                have HW1 := hide ((unhide HB).trans p1.h)
                have HO1 := hide ((unhide HO).bel p1.h)
                have z0 := x0 p1
                have z1 := x1 p1
                have z2 := x2 p1
                have z3 := x3 p1
                generalize p1.W = W1 at HW1 HO1 z0 z1 z2 z3 ⊢
                clear x0 x1 x2 x3
                go_wp2_with (at_builtin; refine app_one (yk, xt, false, xv) (unhide HO1) (unhide HW1).size (by omega) rfl _ _ rfl rfl _ (by simp) rfl ?_; intro g3 cap3 w3 ho3 hg3 hat3; have HO3 := hide ho3; have HB3 : Hid (Bel W w3) := hide (Below.trans ((unhide HW1).trans ((Bel.refl _).alloc _)) (grown_bel hg3 (Nat.le_trans (unhide HW1).size (by simp)) (fun k hk => ((unhide HO1).lt hk).1))); clear ho3 hg3 hat3)
                exact ⟨⟨k + 1, by omega, by go_num, by simp [HMT.out], HB3, X ++ [(yk, xt, false, xv)], by simp; omega, HO3, HT2⟩, by simp [intOf]; omega⟩
            · have HT2 : Hid (X ++ [(yk, xt, xd, xv)] ++ trF below (L.take (k + 1)) (L.drop (k + 1)) = trm below L) := hide (by rw [← HT.out, HSTEP.out, if_pos ⟨HD.out, Or.inl (show below < xt by omega)⟩, List.append_assoc])
              have HMT : Hid (mt below L (k + 1) = false) := hide (by rw [HMN.out]; simp [HD.out, C.t, hto])
              go_wp2_with fail
              refine wp_region_bel hfu (by kernel_rfl) ?_
              repeat (go_big_quiet_step (fail))
              refine wpQuiet_nil ?_
              rintro W1 ⟨p1, rfl⟩
              have HW1 := hide ((unhide HB).trans p1.h)
              have HO1 := hide ((unhide HO).bel p1.h)
              have z0 := x0 p1
              have z1 := x1 p1
              have z2 := x2 p1
              have z3 := x3 p1
              generalize p1.W = W1 at HW1 HO1 z0 z1 z2 z3 ⊢
              clear x0 x1 x2 x3
              go_wp2_with (at_builtin; refine app_one (yk, xt, xd, xv) (unhide HO1) (unhide HW1).size (by omega) rfl _ _ rfl rfl _ (by simp) rfl ?_; intro g3 cap3 w3 ho3 hg3 hat3; have HO3 := hide ho3; have HB3 : Hid (Bel W w3) := hide (Below.trans ((unhide HW1).trans ((Bel.refl _).alloc _)) (grown_bel hg3 (Nat.le_trans (unhide HW1).size (by simp)) (fun k hk => ((unhide HO1).lt hk).1))); clear ho3 hg3 hat3)
              exact ⟨⟨k + 1, by omega, by go_num, by simp [HMT.out], HB3, X ++ [(yk, xt, xd, xv)], by simp; omega, HO3, HT2⟩, by simp [intOf]; omega⟩
        · have HD := hide (HDF.out hkk)
          have hkb := keyb hkk
          generalize hk0 : m + 1 = k at *
          have hke : ((k : Int) == 0) = false := by simp; omega
          have H0 := hide hk0
          clear hk0
          generalize mt below L k = mm at *
          clear HDF HSM hkk
          by_cases hto : xt ≤ below
          · cases xd with
            | true =>
              have HT2 : Hid (X ++ trF below (L.take (k + 1)) (L.drop (k + 1)) = trm below L) := hide (by rw [← HT.out, HSTEP.out, if_neg (fun h => by simp [C.t, C.d] at h; omega)]; rfl)
              have HMT : Hid (mt below L (k + 1) = true) := hide (by rw [HMN.out]; simp [HD.out, C.t, hto])
              go_wp2_with fail
              refine wp_region_bel hfu (by kernel_rfl) ?_
              repeat (go_big_quiet_step (fail))
              refine wpQuiet_nil ?_
              rintro W1 ⟨p1, rfl⟩
              have HW1 := hide ((unhide HB).trans p1.h)
              have HO1 := hide ((unhide HO).bel p1.h)
              have z0 := x0 p1
              have z1 := x1 p1
              have z2 := x2 p1
              have z3 := x3 p1
              generalize p1.W = W1 at HW1 HO1 z0 z1 z2 z3 ⊢
              clear x0 x1 x2 x3
              go_wp2_with fail
              exact ⟨⟨k + 1, by omega, by go_num, by simp [HMT.out], HW1, X, by omega, HO1, HT2⟩, by simp [intOf]; omega⟩
            | false =>
              have HT2 : Hid (X ++ [(xk, xt, false, xv)] ++ trF below (L.take (k + 1)) (L.drop (k + 1)) = trm below L) := hide (by rw [← HT.out, HSTEP.out, if_pos ⟨HD.out, Or.inr rfl⟩, List.append_assoc])
              have HMT : Hid (mt below L (k + 1) = true) := hide (by rw [HMN.out]; simp [HD.out, C.t, hto])
              go_wp2_with fail
              refine wp_region_bel hfu (by kernel_rfl) ?_
              repeat (go_big_quiet_step (fail))
              refine wpQuiet_nil ?_
              rintro W1 ⟨p1, rfl⟩
              have HW1 := hide ((unhide HB).trans p1.h)
              have HO1 := hide ((unhide HO).bel p1.h)
              have z0 := x0 p1
              have z1 := x1 p1
              have z2 := x2 p1
              have z3 := x3 p1
              generalize p1.W = W1 at HW1 HO1 z0 z1 z2 z3 ⊢
              clear x0 x1 x2 x3
              go_wp2_with (at_builtin; refine app_one (xk, xt, false, xv) (unhide HO1) (unhide HW1).size (by omega) rfl _ _ rfl rfl _ (by simp) rfl ?_; intro g3 cap3 w3 ho3 hg3 hat3; have HO3 := hide ho3; have HB3 : Hid (Bel W w3) := hide (Below.trans ((unhide HW1).trans ((Bel.refl _).alloc _)) (grown_bel hg3 (Nat.le_trans (unhide HW1).size (by simp)) (fun k hk => ((unhide HO1).lt hk).1))); clear ho3 hg3 hat3)
              exact ⟨⟨k + 1, by omega, by go_num, by simp [HMT.out], HB3, X ++ [(xk, xt, false, xv)], by simp; omega, HO3, HT2⟩, by simp [intOf]; omega⟩
          · have HT2 : Hid (X ++ [(xk, xt, xd, xv)] ++ trF below (L.take (k + 1)) (L.drop (k + 1)) = trm below L) := hide (by rw [← HT.out, HSTEP.out, if_pos ⟨HD.out, Or.inl (show below < xt by omega)⟩, List.append_assoc])
            have HMT : Hid (mt below L (k + 1) = false) := hide (by rw [HMN.out]; simp [HD.out, C.t, hto])
            go_wp2_with fail
            refine wp_region_bel hfu (by kernel_rfl) ?_
            repeat (go_big_quiet_step (fail))
            refine wpQuiet_nil ?_
            rintro W1 ⟨p1, rfl⟩
            have HW1 := hide ((unhide HB).trans p1.h)
            have HO1 := hide ((unhide HO).bel p1.h)
            have z0 := x0 p1
            have z1 := x1 p1
            have z2 := x2 p1
            have z3 := x3 p1
            generalize p1.W = W1 at HW1 HO1 z0 z1 z2 z3 ⊢
            clear x0 x1 x2 x3
            go_wp2_with (at_builtin; refine app_one (xk, xt, xd, xv) (unhide HO1) (unhide HW1).size (by omega) rfl _ _ rfl rfl _ (by simp) rfl ?_; intro g3 cap3 w3 ho3 hg3 hat3; have HO3 := hide ho3; have HB3 : Hid (Bel W w3) := hide (Below.trans ((unhide HW1).trans ((Bel.refl _).alloc _)) (grown_bel hg3 (Nat.le_trans (unhide HW1).size (by simp)) (fun k hk => ((unhide HO1).lt hk).1))); clear ho3 hg3 hat3)
            exact ⟨⟨k + 1, by omega, by go_num, by simp [HMT.out], HB3, X ++ [(xk, xt, xd, xv)], by simp; omega, HO3, HT2⟩, by simp [intOf]; omega⟩
    · have hki : ¬ (k : Int) < (N : Int) := by omega
      go_wp2_with fail
      go_ret
      refine ⟨_, rfl, unhide HB, ?_⟩
      rw [← HT.out, List.drop_eq_nil_of_le (by have := HN.out; omega)]
      simpa [trF] using (unhide HO).sv
end Go.Proofs.Ytkpallbnmckbaaa
