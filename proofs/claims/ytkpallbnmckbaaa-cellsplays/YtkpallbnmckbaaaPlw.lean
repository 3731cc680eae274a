/- CellsPlays' walk. -/
import Derived.Test.YtkpallbnmckbaaaPlb
namespace Go.Proofs.Ytkpallbnmckbaaa
open Go.RowKit Go.Shelf
set_option maxRecDepth 100000 in
set_option maxHeartbeats 8000000 in
theorem plays_law {S : List Stp} {ad : Option Addr} {cap g off : Nat} (ha : S.length ≠ 0 → ad = some ⟨g, off, none⟩) (w : World) (hr : RowS w g off S) (hok : ∀ s ∈ S, s.ok w) :
    Calls Try.prog 3 #[.slice ad S.length cap] w fun e w' => e = .returned (.bool true) ∧ Bel w w' := by
  have h37 : ∀ (l : Array Value) (W : World), (binOp BinOp.eql 43 (.func (.func 37) #[] l) .nilFunc).run Try.prog W = .ok (.bool false) W := fun l W => eql43 37 l W (Or.inl rfl)
  have h35 : ∀ (l : Array Value) (W : World), (binOp BinOp.eql 43 (.func (.func 35) #[] l) .nilFunc).run Try.prog W = .ok (.bool false) W := fun l W => eql43 35 l W (Or.inr rfl)
  have n37 : ∀ (l : Array Value) (W : World), (binOp BinOp.neq 43 (.func (.func 37) #[] l) .nilFunc).run Try.prog W = .ok (.bool true) W := fun l W => neq43 37 l W (Or.inl rfl)
  obtain ⟨N, hN⟩ : ∃ N, S.length = N := ⟨_, rfl⟩
  have HN := hide hN
  have HR := hide hr
  have HA := hide ha
  have HOK := hide hok
  rw [hN]
  clear ha hr hok hN
  obtain ⟨w1, hw1⟩ : ∃ w1, w1 = w.alloc (.cells #[.bool true, .pointer none] 57) := ⟨_, rfl⟩
  have HP0 : Hid (Pm w w.heap.size [] (.slice none 0 0) w1) := hide (by rw [hw1]; exact ⟨(Bel.refl _).alloc _, Cs.new w, SV.nil _, fun x hx => by simp at hx, Nat.le_refl _⟩)
  have HW1 := hide hw1
  clear hw1
  go_enter Try.func3, Try.ntmps3
  go_wp2_with (first
    | (go_at_call 7; refine (new_any _).mono ?_; rintro e w0 ⟨rfl, hw0⟩; rw [hw0]; clear hw0; rw [← unhide HW1])
    | (go_at_call 8; refine (alive_any _).mono ?_; rintro e w2 ⟨rfl, hb2⟩; have HP := hide ((unhide HP0).next hb2); clear hb2))
  clear HP0 HW1
  generalize w.heap.size = p at HP ⊢
  go_loopw [4, 5, 6, 7, 8, 9, 10, 11, 12, 13, 14, 15, 16] (fun v4 vi _ _ _ _ _ _ _ _ _ _ _ wr => ∃ k : Nat, k ≤ N ∧ k ≤ 60 ∧ vi = .int .i64 k ∧ ∃ l : List C, l.length ≤ 40 * k ∧ Hid (Pm w p l v4 wr)) (fun _ vi _ _ _ _ _ _ _ _ _ _ _ _ => N - (intOf vi).toNat)
  case atStart => exact ⟨0, Nat.zero_le _, Nat.zero_le _, rfl, [], Nat.le_refl _, unhide HP⟩
  case round =>
    clear HP
    obtain ⟨k, hk, hk60, rfl, l, hll, HP⟩ := hrel
    obtain ⟨ax, cx, hx⟩ := (unhide HP).sv.shape
    obtain ⟨n, hn⟩ : ∃ n, l.length = n := ⟨_, rfl⟩
    rw [hn] at hx
    subst hx
    have HNL := hide hn
    have hn4 : n ≤ 2400 := by omega
    rw [hn] at hll
    clear hn
    by_cases hgo : k < N ∧ k < 60
    · obtain ⟨hlt, hlt6⟩ := hgo
      have hkl : k < S.length := by rw [HN.out]; exact hlt
      obtain rfl := HA.out (by omega)
      have hki : (k : Int) < (N : Int) := by omega
      have hki6 : (k : Int) < 60 := by omega
      obtain ⟨s0, s1, s2, s3, s4⟩ := ((unhide HR).bel (unhide HP).bel) k hkl
      have HS := hide (HOK.out S[k] (List.getElem_mem hkl))
      generalize S[k] = s at *
      obtain ⟨op, sa, sn, sc, fr, to, t⟩ := s
      simp only at s0 s1 s2 s3 s4
      by_cases hbig : 40 < sn
      · have hbg : (40 : Int) < (sn : Int) := by omega
        go_wp2_with fail
        exact ⟨⟨k + 1, by omega, by omega, by go_num, l, by rw [HNL.out]; omega, hide ((unhide HP).next ((Bel.refl _).alloc _))⟩, by simp [intOf]; omega⟩
      · have hbg : ¬ (40 : Int) < (sn : Int) := by omega
        rename_i wr
        have HP1 : Hid (Pm w p l (.slice ax n cx) (wr.alloc (.cells #[.int .i64 op, .slice sa sn sc, .string fr, .string to, .int .u64 t] 29))) := hide ((unhide HP).next ((Bel.refl _).alloc _))
        have HBX := hide (at_new wr (.cells #[.int .i64 op, .slice sa sn sc, .string fr, .string to, .int .u64 t] 29))
        by_cases h0 : op = 0
        · subst h0
          obtain ⟨L, gL, oL, hnL, haL, hrL, hpos⟩ := unhide HS
          simp only at hnL haL
          have P9 := hide ((unhide HP1).put (cap := sc) hrL haL (by rw [HNL.out]; omega) hpos)
          rw [← hnL] at P9
          obtain ⟨n3, hn3⟩ : ∃ n3, (putL l L).length = n3 := ⟨_, rfl⟩
          have HL3 := hide hn3
          have HQ : Hid ((putL l L).length ≤ 40 * (k + 1)) := hide (by have := putL_len l L; have := HNL.out; omega)
          generalize (putA L).1 = z1 at P9
          generalize (putA L).2 = z2 at P9
          generalize putL l L = l3 at *
          have HCS := hide (unhide HP1).cs
          clear HP HP1 hnL haL hrL hpos HS hn3
          go_wp2_with (first
            | (go_at_call 9; refine (unhide P9).mono ?_; rintro e w2 ⟨rfl, hch2, hD⟩; have c1 := cell_of (i := 1) (hch2.row (unhide HBX) ((unhide HCS).ne (unhide HBX) (by decide))); have HD := hide hD; clear hch2 hD)
            | (go_at_call 10; refine (unhide HD).mono ?_; rintro e w3 ⟨v3, rfl, hb3, hP3⟩; obtain ⟨a3, c3, hv3⟩ := hP3.sv.shape; rw [HL3.out] at hv3; subst hv3; have HP3 := hide hP3; clear hb3 hP3)
            | (go_at_call 20; refine ((unhide HP3).len HL3.out).mono ?_; rintro e w9 ⟨rfl, hw9⟩; rw [hw9]; clear hw9))
          exact ⟨⟨k + 1, by omega, by omega, by go_num, l3, unhide HQ, HP3⟩, by simp [intOf]; omega⟩
        · have e0 : (op == 0) = false := by simpa using h0
          by_cases h1 : op = 1
          · subst h1
            obtain ⟨n3, hn3⟩ : ∃ n3, (trm t l).length = n3 := ⟨_, rfl⟩
            have hle : n3 ≤ n := by have := trm_len t l; have := HNL.out; omega
            have T := hide ((unhide HP1).trim t (by rw [HNL.out]; omega))
            rw [HNL.out, hn3] at T
            have HL3 := hide hn3
            have HQ : Hid ((trm t l).length ≤ 40 * (k + 1)) := hide (by omega)
            generalize trm t l = l3 at *
            have hw : IntKind.i64.wrap ((n : Int) - (n3 : Int)) = ((n - n3 : Nat) : Int) := by rw [wrapI (by omega) (by omega)]; omega
            clear HP HP1 HS hn3 h0
            go_wp2_with (first
              | (go_at_call 11; refine (unhide T).mono ?_; rintro e w2 ⟨v2, rfl, hb2, hs2, hD⟩; have c4 := cell_of (i := 4) (hb2.row (unhide HBX)); obtain ⟨a3, c3, hv3⟩ := hs2.shape; rw [HL3.out] at hv3; subst hv3; have HD := hide hD; clear hb2 hs2 hD)
              | (go_at_call 12; refine (unhide HD).mono ?_; rintro e w3 ⟨rfl, hch3, hP3⟩; have HP3 := hide hP3; clear hch3 hP3)
              | (go_at_call 20; refine ((unhide HP3).len HL3.out).mono ?_; rintro e w9 ⟨rfl, hw9⟩; rw [hw9]; clear hw9))
            exact ⟨⟨k + 1, by omega, by omega, by go_num, l3, unhide HQ, HP3⟩, by simp [intOf]; omega⟩
          · have e1 : (op == 1) = false := by simpa using h1
            by_cases h2 : op = 2
            · subst h2
              obtain ⟨oc, hoc⟩ : ∃ oc, gC (getP l fr t) = oc := ⟨_, rfl⟩
              obtain ⟨ob, hob⟩ : ∃ ob, gB (getP l fr t) = ob := ⟨_, rfl⟩
              have G := hide ((unhide HP1).get fr t)
              have D : Hid (∀ W', Pm w p l (.slice ax n cx) W' → Calls Try.prog 14 #[.slice ax n cx, .string fr, .int .u64 t] W' fun e w' => e = .returned (.tuple #[.agg #[.string (gC (getP l fr t)).k, .int .u64 (gC (getP l fr t)).t, .bool (gC (getP l fr t)).d, .string (gC (getP l fr t)).v], .bool (gB (getP l fr t))]) ∧ Bel W' w') := hide (fun W' h => h.dget (by rw [HNL.out]; omega) fr t)
              rw [hoc, hob] at G D
              clear hoc hob
              obtain ⟨kk, kt, kd, kv⟩ := oc
              simp only [C.k, C.t, C.d, C.v] at G D
              clear HP HS h0 h1
              go_wp2_with (first
                | (go_at_call 13; refine (unhide G).mono ?_; rintro e w2 ⟨rfl, hb2⟩; have HP2 : Hid (∀ o', Pm w p l (.slice ax n cx) (w2.alloc o')) := hide (fun o' => (unhide HP1).next (hb2.trans ((Bel.refl _).alloc o'))); have c2 : ∀ o', (w2.alloc o').cell? ⟨wr.heap.size, 2, none⟩ = some (.string fr) := (fun o' => cell_of ((hb2.trans ((Bel.refl _).alloc o')).row (unhide HBX))); have c4 : ∀ o', (w2.alloc o').cell? ⟨wr.heap.size, 4, none⟩ = some (.int .u64 t) := (fun o' => cell_of ((hb2.trans ((Bel.refl _).alloc o')).row (unhide HBX))); clear hb2)
                | (go_at_call 14; refine ((unhide D) _ ((unhide HP2) _)).mono ?_; rintro e w3 ⟨rfl, hb3⟩; obtain ⟨y0, y1, y2, y3⟩ := N4.each ((N4.of (x := (kk, kt, kd, kv)) (at_new w2 (.cells #[.string kk, .int .u64 kt, .bool kd, .string kv] 38))).bel hb3); have HP3 : Hid (∀ o', Pm w p l (.slice ax n cx) (w3.alloc o')) := hide (fun o' => ((unhide HP2) _).next (hb3.trans ((Bel.refl _).alloc o'))); clear hb3)
                | (go_at_call 20; refine (((unhide HP3) _).len HNL.out).mono ?_; rintro e w9 ⟨rfl, hw9⟩; rw [hw9]; clear hw9))
              exact ⟨⟨k + 1, by omega, by omega, by go_num, l, by rw [HNL.out]; omega, hide ((unhide HP3) _)⟩, by simp [intOf]; omega⟩
            · have e2 : (op == 2) = false := by simpa using h2
              by_cases h3 : op = 3
              · subst h3
                have hB := at_new wr (.cells #[.int .i64 3, .slice sa sn sc, .string fr, .string to, .int .u64 t] 29)
                have HSL : Hid ((scanP l fr to t).length ≤ 80000) := hide (by have := (unhide HP1).scan_len fr to t; have := HNL.out; omega)
                clear HP HS HBX h0 h1 h2
                go_wp2_with fail
                generalize hWB : wr.alloc (.cells #[.int .i64 3, .slice sa sn sc, .string fr, .string to, .int .u64 t] 29) = WB at *
                generalize wr.heap.size = b at *
                have HK : Hid (∀ W', Bel WB W' → (W'.cell? ⟨b, 2, none⟩ = some (.string fr) ∧ W'.cell? ⟨b, 3, none⟩ = some (.string to) ∧ W'.cell? ⟨b, 4, none⟩ = some (.int .u64 t)) ∧ Pm w p l (.slice ax n cx) W' ∧ Bel WB W') := hide (fun W' hb => ⟨⟨cell_of (hb.row hB), cell_of (hb.row hB), cell_of (hb.row hB)⟩, (unhide HP1).next hb, hb⟩)
                have SC : Hid (∀ W', (W'.cell? ⟨b, 2, none⟩ = some (.string fr) ∧ W'.cell? ⟨b, 3, none⟩ = some (.string to) ∧ W'.cell? ⟨b, 4, none⟩ = some (.int .u64 t)) ∧ Pm w p l (.slice ax n cx) W' ∧ Bel WB W' → Calls Try.prog 15 #[.pointer (some ⟨p, 0, none⟩), .string fr, .string to, .int .u64 t] W' fun e w' => ∃ lb, e = .returned (.func (.func 35) #[] lb) ∧ Bel W' w' ∧ It w' 4 900000 35 lb (scanP l fr to t)) := hide (fun W' h => (h.2.1.scan (by rw [HNL.out]; omega) fr to t).mono (fun e w' ⟨lb, h1, h2, h3, _⟩ => ⟨lb, h1, h2, h3⟩))
                have TK : Hid (∀ W' lb, It W' 4 900000 35 lb (scanP l fr to t) → Calls Try.prog 17 #[.func (.func 35) #[] lb, .int .i64 (-1)] W' fun e w' => ∃ v, e = .returned v ∧ Bel W' w' ∧ RV w' v (scanP l fr to t)) := hide (fun W' lb h => (took_any en35 h).mono (fun e w' ⟨v, h1, h2, h3⟩ => ⟨v, h1, h3, h2.rv⟩))
                have DS : Hid (∀ W', (W'.cell? ⟨b, 2, none⟩ = some (.string fr) ∧ W'.cell? ⟨b, 3, none⟩ = some (.string to) ∧ W'.cell? ⟨b, 4, none⟩ = some (.int .u64 t)) ∧ Pm w p l (.slice ax n cx) W' ∧ Bel WB W' → Calls Try.prog 18 #[.slice ax n cx, .string fr, .string to, .int .u64 t] W' fun e w' => ∃ v, e = .returned v ∧ Bel W' w' ∧ RV w' v (scanP l fr to t)) := hide (fun W' h => (h.2.1.dscan (by rw [HNL.out]; omega) fr to t).mono (fun e w' ⟨v, h1, h2, h3, _⟩ => ⟨v, h1, h2, h3⟩))
                have SM : Hid (∀ W' v1 v2, RV W' v1 (scanP l fr to t) → RV W' v2 (scanP l fr to t) → Calls Try.prog 16 #[v1, v2] W' fun e w' => e = .returned (.bool true) ∧ Bel W' w') := hide (fun W' v1 v2 h1 h2 => same_any h1 h2 (by have := HSL.out; omega))
                generalize scanP l fr to t = xs at *
                clear hB s0 s1 s2 s3 s4 hWB
                go_region_held3 (fun W' => (W'.cell? ⟨b, 2, none⟩ = some (.string fr) ∧ W'.cell? ⟨b, 3, none⟩ = some (.string to) ∧ W'.cell? ⟨b, 4, none⟩ = some (.int .u64 t)) ∧ Pm w p l (.slice ax n cx) W' ∧ Bel WB W') (first | exact HK.out _ hB5 | exact HK.out _ hB4 | exact HK.out _ hB3 | exact HK.out _ hB2 | exact HK.out _ hB1 | exact HK.out _ (Bel.refl _).drew) ((first
                  | (go_at_call 15; with_reducible refine (SC.out _ (by assumption)).mono ?_; rintro e w1 ⟨lb1, rfl, hb1, hit1⟩; first | have hB2 := hB1.trans hb1 | have hB1 := (Bel.refl WB).drew.trans hb1)
                  | (go_at_call 17; with_reducible refine (TK.out _ _ hit1).mono ?_; rintro e w3 ⟨v3, rfl, hb3, hv3⟩; have hB3 := hB2.trans hb3)
                  | (go_at_call 18; with_reducible refine (DS.out _ (by assumption)).mono ?_; rintro e w4 ⟨v4, rfl, hb4, hv4⟩; have hB4 := hB3.trans hb4; have hv3' := hv3.bel hb4)
                  | (go_at_call 16; refine (SM.out _ _ _ hv3' hv4).mono ?_; rintro e w5 ⟨rfl, hb5⟩; have hB5 := hB4.trans hb5)))
                all_goals
                  have HP5 := hide ((unhide HP1).next hB5)
                  go_wp2_with (go_at_call 20; refine ((unhide HP5).len HNL.out).mono ?_; rintro e w9 ⟨rfl, hw9⟩; rw [hw9]; clear hw9)
                  exact ⟨⟨k + 1, by omega, by omega, by go_num, l, by rw [HNL.out]; omega, HP5⟩, by simp [intOf]; omega⟩
              · have e3 : (op == 3) = false := by simpa using h3
                clear HP HS h0 h1 h2 h3
                go_wp2_with (first
          | (go_at_call 19; refine ((unhide HP1).all (by rw [HNL.out]; omega)).mono ?_; rintro e w5 ⟨lb5, rfl, hb5, hit5, hP5⟩; have HIT := hide hit5; have HP1 := hide hP5; clear hb5 hit5 hP5)
          | (go_at_call 17; refine ((unhide HP1).took en37 (unhide HIT)).mono ?_; rintro e w6 ⟨v6, rfl, hb6, hv6, hP6⟩; have HV6 := hide hv6; have HP1 := hide hP6; clear hb6 hv6 hP6)
          | (go_at_call 16; refine ((unhide HP1).same (unhide HV6) (unhide HP1).sv.rv (by rw [HNL.out]; omega)).mono ?_; rintro e w7 ⟨rfl, hb7, hP7⟩; have HP1 := hide hP7; clear hb7 hP7)
          | (go_at_call 20; refine ((unhide HP1).len HNL.out).mono ?_; rintro e w9 ⟨rfl, hw9⟩; rw [hw9]; clear hw9))
                exact ⟨⟨k + 1, by omega, by omega, by go_num, l, by rw [HNL.out]; omega, HP1⟩, by simp [intOf]; omega⟩
    · have HP1 := HP
      clear HP
      by_cases hlt : k < N
      · have hki : (k : Int) < (N : Int) := by omega
        have hki6 : ¬ (k : Int) < 60 := by omega
        go_wp2_with (first
          | (go_at_call 19; refine ((unhide HP1).all (by rw [HNL.out]; omega)).mono ?_; rintro e w5 ⟨lb5, rfl, hb5, hit5, hP5⟩; have HIT := hide hit5; have HP1 := hide hP5; clear hb5 hit5 hP5)
          | (go_at_call 17; refine ((unhide HP1).took en37 (unhide HIT)).mono ?_; rintro e w6 ⟨v6, rfl, hb6, hv6, hP6⟩; have HV6 := hide hv6; have HP1 := hide hP6; clear hb6 hv6 hP6)
          | (go_at_call 16; refine ((unhide HP1).same (unhide HV6) (unhide HP1).sv.rv (by rw [HNL.out]; omega)).mono ?_; rintro e w7 ⟨rfl, hb7, hP7⟩; have HP1 := hide hP7; clear hb7 hP7))
        go_ret
        exact ⟨rfl, (unhide HP1).bel⟩
      · have hki : ¬ (k : Int) < (N : Int) := by omega
        go_wp2_with (first
          | (go_at_call 19; refine ((unhide HP1).all (by rw [HNL.out]; omega)).mono ?_; rintro e w5 ⟨lb5, rfl, hb5, hit5, hP5⟩; have HIT := hide hit5; have HP1 := hide hP5; clear hb5 hit5 hP5)
          | (go_at_call 17; refine ((unhide HP1).took en37 (unhide HIT)).mono ?_; rintro e w6 ⟨v6, rfl, hb6, hv6, hP6⟩; have HV6 := hide hv6; have HP1 := hide hP6; clear hb6 hv6 hP6)
          | (go_at_call 16; refine ((unhide HP1).same (unhide HV6) (unhide HP1).sv.rv (by rw [HNL.out]; omega)).mono ?_; rintro e w7 ⟨rfl, hb7, hP7⟩; have HP1 := hide hP7; clear hb7 hP7))
        go_ret
        exact ⟨rfl, (unhide HP1).bel⟩
end Go.Proofs.Ytkpallbnmckbaaa
