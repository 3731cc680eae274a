/- The document's Scan. -/
import Derived.Test.YtkpallbnmckbaaaDct
import Derived.Test.YtkpallbnmckbaaaDcb
namespace Go.Proofs.Ytkpallbnmckbaaa
open Go.RowKit
theorem dS_step (a b : ByteArray) (t : Int) {L : List C} {k : Nat} (hk : k < L.length) : dS a b t (L.take k) (L.drop k) = (if skp a b (L.take k) L[k] = true then [] else (dG (L.drop k) L[k].k t).toList) ++ dS a b t (L.take (k + 1)) (L.drop (k + 1)) := by
  rw [take_one L k hk]
  conv => lhs; rw [List.drop_eq_getElem_cons hk]
  show (if _ then _ else _) ++ _ = _
  rw [← List.drop_eq_getElem_cons hk]
theorem skp_zero {a b : ByteArray} {x : C} : skp a b [] x = (Op.bytesLess x.k.data.toList a.data.toList || past b x.k || false) := rfl
theorem skp_at {a b : ByteArray} {x : C} {L : List C} {m : Nat} (hm : m < L.length) : skp a b (L.take (m + 1)) x = (Op.bytesLess x.k.data.toList a.data.toList || past b x.k || decide (L[m].k = x.k)) := by
  unfold skp
  rw [last_at hm]
set_option maxRecDepth 100000 in
set_option maxHeartbeats 8000000 in
theorem dscan_any {W : World} {v : Value} {L : List C} (a b : ByteArray) (t : Int) (h : RV W v L) (hl : L.length ≤ 800000) : Calls Try.prog 18 #[v, .string a, .string b, .int .u64 t] W fun e w' => ∃ v', e = .returned v' ∧ Bel W w' ∧ SV w' v' (dS a b t [] L) := by
  obtain ⟨ad, cap, g, off, rfl, ha, hr, hcap⟩ := h
  have HR := hide hr
  have HA := hide ha
  have HC := hide hcap
  obtain ⟨N, hN⟩ : ∃ N, L.length = N := ⟨_, rfl⟩
  have HN := hide hN
  rw [hN] at hl hcap ⊢
  clear hr ha hN
  go_enter Try.func18, Try.ntmps18
  go_wp2_with fail
  go_loopw [9, 10, 11, 12, 13] (fun v9 vi _ _ _ wr => ∃ k : Nat, k ≤ N ∧ vi = .int .i64 k ∧ Hid (Bel W wr) ∧ ∃ X : List C, X.length ≤ k ∧ Hid (OR W.heap.size wr v9 X) ∧ Hid (X ++ dS a b t (L.take k) (L.drop k) = dS a b t [] L)) (fun _ vi _ _ _ _ => N - (intOf vi).toNat)
  case atStart => exact ⟨0, Nat.zero_le _, rfl, Bel.refl _, [], Nat.le_refl _, OR.nil _ _, by simp [Hid]⟩
  case round =>
    rename_i wr
    obtain ⟨k, hk, rfl, HB, X, hX, HO, HT⟩ := hrel
    by_cases hlt : k < N
    · have hkl : k < L.length := by rw [HN.out]; exact hlt
      obtain rfl := HA.out (by omega)
      have hki : (k : Int) < (N : Int) := by omega
      have hq1 : (0 : Int) ≤ (k : Int) := by omega
      have hq2 : (k : Int) ≤ (cap : Int) := by omega
      have hq3 : (k : Int) ≤ (N : Int) := by omega
      have HSTEP := hide (dS_step a b t hkl)
      obtain ⟨x0, _, _, _⟩ := ((unhide HR).bel (unhide HB)) k hkl
      have HDR := hide (RV.drop ((unhide HR).bel (unhide HB)) (unhide HC) k (by omega) _ rfl)
      rw [HN.out, if_neg (show ¬ cap = k by omega)] at HDR
      have C14 := hide (dget_any L[k].k t (unhide HDR) (by simp; have := HN.out; omega))
      have HSZ : Hid (k = 0 → skp a b (L.take k) L[k] = (Op.bytesLess L[k].k.data.toList a.data.toList || past b L[k].k || false)) := hide (fun e => by subst e; exact skp_zero)
      have HSK : Hid (∀ m (hm : m < L.length), m + 1 = k → skp a b (L.take k) L[k] = (Op.bytesLess L[k].k.data.toList a.data.toList || past b L[k].k || decide (L[m].k = L[k].k))) := hide (fun m hm e => by subst e; exact skp_at hm)
      have HSO : Hid (Op.bytesLess L[k].k.data.toList a.data.toList = true ∨ past b L[k].k = true → skp a b (L.take k) L[k] = true) := hide (fun h => by unfold skp; rcases h with h | h <;> simp [h])
      generalize hxk : L[k].k = xk at *
      generalize hS : skp a b (L.take k) L[k] = S at *
      clear hxk
      have hem : (b.toList.isEmpty) = b.data.toList.isEmpty := by rw [Lib.toList_data]
      have hle : Op.bytesLess xk.toList b.toList = Op.bytesLess xk.data.toList b.data.toList := by rw [Lib.toList_data, Lib.toList_data]
      have hla : Op.bytesLess xk.toList a.toList = Op.bytesLess xk.data.toList a.data.toList := by rw [Lib.toList_data, Lib.toList_data]
      obtain ⟨em, hem'⟩ : ∃ em, b.data.toList.isEmpty = em := ⟨_, rfl⟩
      obtain ⟨le, hle'⟩ : ∃ le, Op.bytesLess xk.data.toList b.data.toList = le := ⟨_, rfl⟩
      obtain ⟨la, hla'⟩ : ∃ la, Op.bytesLess xk.data.toList a.data.toList = la := ⟨_, rfl⟩
      have hpast : past b xk = (!em && !le) := by unfold past; rw [hem', hle']
      rw [hem'] at hem
      rw [hle'] at hle
      rw [hla'] at hla
      rw [hpast, hla'] at HSZ HSK HSO
      clear hem' hle' hla' hpast hS
      cases la with
      | true =>
        obtain rfl : S = true := HSO.out (Or.inl rfl)
        clear HSZ HSK HSO
        have HT2 : Hid (X ++ dS a b t (L.take (k + 1)) (L.drop (k + 1)) = dS a b t [] L) := hide (by rw [← HT.out, HSTEP.out]; rfl)
        go_wp2_with fail
        exact ⟨⟨k + 1, by omega, by go_num, HB, X, by omega, HO, HT2⟩, by simp [intOf]; omega⟩
      | false =>
        by_cases h0 : k = 0
        · have HS0 := hide (HSZ.out h0)
          have hkg : ¬ (0 : Int) < (k : Int) := by omega
          have H0 := hide h0
          clear HSZ HSK HSO h0
          cases em with
          | true =>
            obtain rfl : S = false := HS0.out
            cases hgd : dG (L.drop k) xk t with
            | none =>
              have HT2 : Hid (X ++ dS a b t (L.take (k + 1)) (L.drop (k + 1)) = dS a b t [] L) := hide (by rw [← HT.out, HSTEP.out, hgd]; rfl)
              rw [hgd] at C14
              unfold getV at C14
              clear hgd
              go_wp2_with (first | (go_at_call 14; refine (unhide C14).mono ?_; rintro e w2 ⟨rfl, hb2⟩; have HB2 := hide hb2; clear hb2) | (refine store_cell rfl _ _ rfl (at_new _ _) ⟨#[]⟩ 0 false ⟨#[]⟩ rfl rfl ?_; intro W3 hB3 hc3; have HB3 := hide (hc3.after ((unhide HB2).trans ((Bel.refl _).alloc _)) (unhide HB2).size); have HBX := hide hB3; have r0 := cell_of (i := 0) hB3; have r1 := cell_of (i := 1) hB3; have r2 := cell_of (i := 2) hB3; have r3 := cell_of (i := 3) hB3; clear hc3 hB3))
              exact ⟨⟨k + 1, by omega, by go_num, hide ((unhide HB).trans (unhide HB3)), X, by omega, hide ((unhide HO).bel (unhide HB3)), HT2⟩, by simp [intOf]; omega⟩
            | some yy =>
              have HT2 : Hid (X ++ [yy] ++ dS a b t (L.take (k + 1)) (L.drop (k + 1)) = dS a b t [] L) := hide (by rw [← HT.out, HSTEP.out, hgd, List.append_assoc]; rfl)
              rw [hgd] at C14
              obtain ⟨yy, yt, yd, yv⟩ := yy
              unfold getV vC at C14
              simp only [C.k, C.t, C.d, C.v] at C14
              clear hgd
              go_wp2_with (first | (go_at_call 14; refine (unhide C14).mono ?_; rintro e w2 ⟨rfl, hb2⟩; have HB2 := hide hb2; clear hb2) | (refine store_cell rfl _ _ rfl (at_new _ _) yy yt yd yv rfl rfl ?_; intro W3 hB3 hc3; have HB3 := hide (hc3.after ((unhide HB2).trans ((Bel.refl _).alloc _)) (unhide HB2).size); have HBX := hide hB3; have r0 := cell_of (i := 0) hB3; have r1 := cell_of (i := 1) hB3; have r2 := cell_of (i := 2) hB3; have r3 := cell_of (i := 3) hB3; clear hc3 hB3) | (at_builtin; refine app_one (yy, yt, yd, yv) ((unhide HO).bel (unhide HB3)) ((unhide HB).trans (unhide HB3)).size (by omega) rfl _ _ rfl rfl _ (by simp) rfl ?_; intro g4 cap4 w4 ho4 hg4 hat4; have HO4 := hide ho4; have HB4 : Hid (Bel W w4) := hide (Below.trans (((unhide HB).trans (unhide HB3)).trans ((Bel.refl _).alloc _)) (grown_bel hg4 (Nat.le_trans ((unhide HB).trans (unhide HB3)).size (by simp)) (fun k hk => ((unhide HO).lt hk).1))); clear ho4 hg4 hat4))
              exact ⟨⟨k + 1, by omega, by go_num, HB4, X ++ [(yy, yt, yd, yv)], by simp; omega, HO4, HT2⟩, by simp [intOf]; omega⟩
          | false =>
            cases le with
            | true =>
              obtain rfl : S = false := HS0.out
              cases hgd : dG (L.drop k) xk t with
              | none =>
                have HT2 : Hid (X ++ dS a b t (L.take (k + 1)) (L.drop (k + 1)) = dS a b t [] L) := hide (by rw [← HT.out, HSTEP.out, hgd]; rfl)
                rw [hgd] at C14
                unfold getV at C14
                clear hgd
                go_wp2_with (first | (go_at_call 14; refine (unhide C14).mono ?_; rintro e w2 ⟨rfl, hb2⟩; have HB2 := hide hb2; clear hb2) | (refine store_cell rfl _ _ rfl (at_new _ _) ⟨#[]⟩ 0 false ⟨#[]⟩ rfl rfl ?_; intro W3 hB3 hc3; have HB3 := hide (hc3.after ((unhide HB2).trans ((Bel.refl _).alloc _)) (unhide HB2).size); have HBX := hide hB3; have r0 := cell_of (i := 0) hB3; have r1 := cell_of (i := 1) hB3; have r2 := cell_of (i := 2) hB3; have r3 := cell_of (i := 3) hB3; clear hc3 hB3))
                exact ⟨⟨k + 1, by omega, by go_num, hide ((unhide HB).trans (unhide HB3)), X, by omega, hide ((unhide HO).bel (unhide HB3)), HT2⟩, by simp [intOf]; omega⟩
              | some yy =>
                have HT2 : Hid (X ++ [yy] ++ dS a b t (L.take (k + 1)) (L.drop (k + 1)) = dS a b t [] L) := hide (by rw [← HT.out, HSTEP.out, hgd, List.append_assoc]; rfl)
                rw [hgd] at C14
                obtain ⟨yy, yt, yd, yv⟩ := yy
                unfold getV vC at C14
                simp only [C.k, C.t, C.d, C.v] at C14
                clear hgd
                go_wp2_with (first | (go_at_call 14; refine (unhide C14).mono ?_; rintro e w2 ⟨rfl, hb2⟩; have HB2 := hide hb2; clear hb2) | (refine store_cell rfl _ _ rfl (at_new _ _) yy yt yd yv rfl rfl ?_; intro W3 hB3 hc3; have HB3 := hide (hc3.after ((unhide HB2).trans ((Bel.refl _).alloc _)) (unhide HB2).size); have HBX := hide hB3; have r0 := cell_of (i := 0) hB3; have r1 := cell_of (i := 1) hB3; have r2 := cell_of (i := 2) hB3; have r3 := cell_of (i := 3) hB3; clear hc3 hB3) | (at_builtin; refine app_one (yy, yt, yd, yv) ((unhide HO).bel (unhide HB3)) ((unhide HB).trans (unhide HB3)).size (by omega) rfl _ _ rfl rfl _ (by simp) rfl ?_; intro g4 cap4 w4 ho4 hg4 hat4; have HO4 := hide ho4; have HB4 : Hid (Bel W w4) := hide (Below.trans (((unhide HB).trans (unhide HB3)).trans ((Bel.refl _).alloc _)) (grown_bel hg4 (Nat.le_trans ((unhide HB).trans (unhide HB3)).size (by simp)) (fun k hk => ((unhide HO).lt hk).1))); clear ho4 hg4 hat4))
                exact ⟨⟨k + 1, by omega, by go_num, HB4, X ++ [(yy, yt, yd, yv)], by simp; omega, HO4, HT2⟩, by simp [intOf]; omega⟩
            | false =>
              obtain rfl : S = true := HS0.out
              have HT2 : Hid (X ++ dS a b t (L.take (k + 1)) (L.drop (k + 1)) = dS a b t [] L) := hide (by rw [← HT.out, HSTEP.out]; rfl)
              go_wp2_with fail
              exact ⟨⟨k + 1, by omega, by go_num, HB, X, by omega, HO, HT2⟩, by simp [intOf]; omega⟩
        · obtain ⟨m, hmk⟩ : ∃ m, m + 1 = k := ⟨k - 1, by omega⟩
          have hml : m < L.length := by omega
          have HS1 := hide (HSK.out m hml hmk)
          obtain ⟨y0, _, _, _⟩ := ((unhide HR).bel (unhide HB)) m hml
          have hkg : (0 : Int) < (k : Int) := by omega
          have hw : IntKind.i64.wrap ((k : Int) - 1) = (m : Int) := by rw [wrapI (by omega) (by omega)]; omega
          have hw1 : (m : Int) < (N : Int) := by omega
          have hw2 : (0 : Int) ≤ (m : Int) := by omega
          have hw3 : m < N := by omega
          generalize (L[m]'hml).k = yk at *
          have H0 := hide h0
          have HMK := hide hmk
          clear HSZ HSK HSO h0 hmk
          by_cases hkk : yk = xk
          · subst hkk
            have hse : S = true := by rw [HS1.out]; simp
            subst hse
            clear HS1
            cases em with
            | true =>
              have HT2 : Hid (X ++ dS a b t (L.take (k + 1)) (L.drop (k + 1)) = dS a b t [] L) := hide (by rw [← HT.out, HSTEP.out]; rfl)
              go_wp2_with fail
              exact ⟨⟨k + 1, by omega, by go_num, HB, X, by omega, HO, HT2⟩, by simp [intOf]; omega⟩
            | false =>
              cases le with
              | true =>
                have HT2 : Hid (X ++ dS a b t (L.take (k + 1)) (L.drop (k + 1)) = dS a b t [] L) := hide (by rw [← HT.out, HSTEP.out]; rfl)
                go_wp2_with fail
                exact ⟨⟨k + 1, by omega, by go_num, HB, X, by omega, HO, HT2⟩, by simp [intOf]; omega⟩
              | false =>
                have HT2 : Hid (X ++ dS a b t (L.take (k + 1)) (L.drop (k + 1)) = dS a b t [] L) := hide (by rw [← HT.out, HSTEP.out]; rfl)
                go_wp2_with fail
                exact ⟨⟨k + 1, by omega, by go_num, HB, X, by omega, HO, HT2⟩, by simp [intOf]; omega⟩
          · have hkb := keyb hkk
            have hse : S = (!em && !le) := by rw [HS1.out]; simp [hkk]
            clear HS1 hkk
            cases em with
            | true =>
              obtain rfl : S = false := hse
              cases hgd : dG (L.drop k) xk t with
              | none =>
                have HT2 : Hid (X ++ dS a b t (L.take (k + 1)) (L.drop (k + 1)) = dS a b t [] L) := hide (by rw [← HT.out, HSTEP.out, hgd]; rfl)
                rw [hgd] at C14
                unfold getV at C14
                clear hgd
                go_wp2_with (first | (go_at_call 14; refine (unhide C14).mono ?_; rintro e w2 ⟨rfl, hb2⟩; have HB2 := hide hb2; clear hb2) | (refine store_cell rfl _ _ rfl (at_new _ _) ⟨#[]⟩ 0 false ⟨#[]⟩ rfl rfl ?_; intro W3 hB3 hc3; have HB3 := hide (hc3.after ((unhide HB2).trans ((Bel.refl _).alloc _)) (unhide HB2).size); have HBX := hide hB3; have r0 := cell_of (i := 0) hB3; have r1 := cell_of (i := 1) hB3; have r2 := cell_of (i := 2) hB3; have r3 := cell_of (i := 3) hB3; clear hc3 hB3))
                exact ⟨⟨k + 1, by omega, by go_num, hide ((unhide HB).trans (unhide HB3)), X, by omega, hide ((unhide HO).bel (unhide HB3)), HT2⟩, by simp [intOf]; omega⟩
              | some yy =>
                have HT2 : Hid (X ++ [yy] ++ dS a b t (L.take (k + 1)) (L.drop (k + 1)) = dS a b t [] L) := hide (by rw [← HT.out, HSTEP.out, hgd, List.append_assoc]; rfl)
                rw [hgd] at C14
                obtain ⟨yy, yt, yd, yv⟩ := yy
                unfold getV vC at C14
                simp only [C.k, C.t, C.d, C.v] at C14
                clear hgd
                go_wp2_with (first | (go_at_call 14; refine (unhide C14).mono ?_; rintro e w2 ⟨rfl, hb2⟩; have HB2 := hide hb2; clear hb2) | (refine store_cell rfl _ _ rfl (at_new _ _) yy yt yd yv rfl rfl ?_; intro W3 hB3 hc3; have HB3 := hide (hc3.after ((unhide HB2).trans ((Bel.refl _).alloc _)) (unhide HB2).size); have HBX := hide hB3; have r0 := cell_of (i := 0) hB3; have r1 := cell_of (i := 1) hB3; have r2 := cell_of (i := 2) hB3; have r3 := cell_of (i := 3) hB3; clear hc3 hB3) | (at_builtin; refine app_one (yy, yt, yd, yv) ((unhide HO).bel (unhide HB3)) ((unhide HB).trans (unhide HB3)).size (by omega) rfl _ _ rfl rfl _ (by simp) rfl ?_; intro g4 cap4 w4 ho4 hg4 hat4; have HO4 := hide ho4; have HB4 : Hid (Bel W w4) := hide (Below.trans (((unhide HB).trans (unhide HB3)).trans ((Bel.refl _).alloc _)) (grown_bel hg4 (Nat.le_trans ((unhide HB).trans (unhide HB3)).size (by simp)) (fun k hk => ((unhide HO).lt hk).1))); clear ho4 hg4 hat4))
                exact ⟨⟨k + 1, by omega, by go_num, HB4, X ++ [(yy, yt, yd, yv)], by simp; omega, HO4, HT2⟩, by simp [intOf]; omega⟩
            | false =>
              cases le with
              | true =>
                obtain rfl : S = false := hse
                cases hgd : dG (L.drop k) xk t with
                | none =>
                  have HT2 : Hid (X ++ dS a b t (L.take (k + 1)) (L.drop (k + 1)) = dS a b t [] L) := hide (by rw [← HT.out, HSTEP.out, hgd]; rfl)
                  rw [hgd] at C14
                  unfold getV at C14
                  clear hgd
                  go_wp2_with (first | (go_at_call 14; refine (unhide C14).mono ?_; rintro e w2 ⟨rfl, hb2⟩; have HB2 := hide hb2; clear hb2) | (refine store_cell rfl _ _ rfl (at_new _ _) ⟨#[]⟩ 0 false ⟨#[]⟩ rfl rfl ?_; intro W3 hB3 hc3; have HB3 := hide (hc3.after ((unhide HB2).trans ((Bel.refl _).alloc _)) (unhide HB2).size); have HBX := hide hB3; have r0 := cell_of (i := 0) hB3; have r1 := cell_of (i := 1) hB3; have r2 := cell_of (i := 2) hB3; have r3 := cell_of (i := 3) hB3; clear hc3 hB3))
                  exact ⟨⟨k + 1, by omega, by go_num, hide ((unhide HB).trans (unhide HB3)), X, by omega, hide ((unhide HO).bel (unhide HB3)), HT2⟩, by simp [intOf]; omega⟩
                | some yy =>
                  have HT2 : Hid (X ++ [yy] ++ dS a b t (L.take (k + 1)) (L.drop (k + 1)) = dS a b t [] L) := hide (by rw [← HT.out, HSTEP.out, hgd, List.append_assoc]; rfl)
                  rw [hgd] at C14
                  obtain ⟨yy, yt, yd, yv⟩ := yy
                  unfold getV vC at C14
                  simp only [C.k, C.t, C.d, C.v] at C14
                  clear hgd
                  go_wp2_with (first | (go_at_call 14; refine (unhide C14).mono ?_; rintro e w2 ⟨rfl, hb2⟩; have HB2 := hide hb2; clear hb2) | (refine store_cell rfl _ _ rfl (at_new _ _) yy yt yd yv rfl rfl ?_; intro W3 hB3 hc3; have HB3 := hide (hc3.after ((unhide HB2).trans ((Bel.refl _).alloc _)) (unhide HB2).size); have HBX := hide hB3; have r0 := cell_of (i := 0) hB3; have r1 := cell_of (i := 1) hB3; have r2 := cell_of (i := 2) hB3; have r3 := cell_of (i := 3) hB3; clear hc3 hB3) | (at_builtin; refine app_one (yy, yt, yd, yv) ((unhide HO).bel (unhide HB3)) ((unhide HB).trans (unhide HB3)).size (by omega) rfl _ _ rfl rfl _ (by simp) rfl ?_; intro g4 cap4 w4 ho4 hg4 hat4; have HO4 := hide ho4; have HB4 : Hid (Bel W w4) := hide (Below.trans (((unhide HB).trans (unhide HB3)).trans ((Bel.refl _).alloc _)) (grown_bel hg4 (Nat.le_trans ((unhide HB).trans (unhide HB3)).size (by simp)) (fun k hk => ((unhide HO).lt hk).1))); clear ho4 hg4 hat4))
                  exact ⟨⟨k + 1, by omega, by go_num, HB4, X ++ [(yy, yt, yd, yv)], by simp; omega, HO4, HT2⟩, by simp [intOf]; omega⟩
              | false =>
                obtain rfl : S = true := hse
                have HT2 : Hid (X ++ dS a b t (L.take (k + 1)) (L.drop (k + 1)) = dS a b t [] L) := hide (by rw [← HT.out, HSTEP.out]; rfl)
                go_wp2_with fail
                exact ⟨⟨k + 1, by omega, by go_num, HB, X, by omega, HO, HT2⟩, by simp [intOf]; omega⟩
    · have hki : ¬ (k : Int) < (N : Int) := by omega
      go_wp2_with fail
      go_ret
      refine ⟨_, rfl, unhide HB, ?_⟩
      rw [← HT.out, List.drop_eq_nil_of_le (by have := HN.out; omega)]
      simpa [dS] using (unhide HO).sv
end Go.Proofs.Ytkpallbnmckbaaa
