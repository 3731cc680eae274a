/- The document's Lay, walked. -/
import Derived.Test.YtkpallbnmckbaaaDcl
namespace Go.Proofs.Ytkpallbnmckbaaa
open Go.RowKit
set_option maxRecDepth 100000 in
set_option maxHeartbeats 4000000 in
theorem lay_row {W : World} {g off cap : Nat} {L : List C} (c : C) (hr : Row W g off L) (hc : L.length ≤ cap) (hl : L.length ≤ 900000) : Calls Try.prog 28 #[.slice (some ⟨g, off, none⟩) L.length cap, vC c] W fun e w' => ∃ v', e = .returned v' ∧ Bel W w' ∧ SV w' v' (ins c L) := by
  obtain ⟨k0, t0, d0, v0⟩ := c
  show Calls Try.prog 28 #[.slice (some ⟨g, off, none⟩) L.length cap, .agg #[.string k0, .int .u64 t0, .bool d0, .string v0]] W _
  obtain ⟨N, hN⟩ : ∃ N, L.length = N := ⟨_, rfl⟩
  have hfu := Try.follows
  have HN := hide hN
  have HC := hide hc
  rw [hN] at hc hl ⊢
  obtain ⟨W0, hW0⟩ : ∃ W0, W0 = W.alloc (.cells #[.string k0, .int .u64 t0, .bool d0, .string v0] 38) := ⟨_, rfl⟩
  have hb0 : Bel W W0 := by rw [hW0]; exact (Bel.refl _).alloc _
  have hbx : N4 W0 W.heap.size (k0, t0, d0, v0) := by rw [hW0]; exact N4.of (at_new W _)
  have HW0 := hide hW0
  have HBX := hide hbx
  have HB0 := hide hb0
  have HR := hide (hr.bel hb0)
  generalize hX : W.heap.size = X at HBX
  clear hN hr hW0 hbx hb0
  go_enter Try.func28, Try.ntmps28
  go_wp2_with fail
  rw [← unhide HW0]
  go_loopw [5] (fun vi wr => ∃ k : Nat, k ≤ N ∧ vi = .int .i64 k ∧ Hid (Bel W0 wr) ∧ Hid (∀ i (_ : i < k) (h : i < L.length), cmpC L[i] (k0, t0, d0, v0) < 0)) (fun vi _ => N - (intOf vi).toNat)
  case atStart => exact ⟨0, Nat.zero_le _, rfl, Bel.refl _, fun i hi => absurd hi (Nat.not_lt_zero _)⟩
  case round =>
    rename_i wr
    obtain ⟨k, hk, rfl, HB, HI⟩ := hrel
    have hne := BelBy.some wr
    by_cases hlt : k < N
    · have hkl : k < L.length := by rw [HN.out]; exact hlt
      have hki : (k : Int) < (N : Int) := by omega
      obtain ⟨x0, x1, x2, x3⟩ := N4.row ((unhide HR).bel (unhide HB)) hkl
      obtain ⟨y0, y1, y2, y3⟩ := ((unhide HBX).bel (unhide HB)).all
      obtain ⟨z, hz⟩ : ∃ z, cmpC L[k] (k0, t0, d0, v0) = z := ⟨_, rfl⟩
      have HZ := hide hz
      have D := hide (dcmpv L[k] (k0, t0, d0, v0) z hz)
      have HNX : Hid (z < 0 → ∀ i (_ : i < k + 1) (h : i < L.length), cmpC L[i] (k0, t0, d0, v0) < 0) := hide (fun h i hi hL => by
        by_cases e : i = k
        · subst e; rw [HZ.out]; exact h
        · exact HI.out i (by omega) hL)
      generalize hxx : L[k] = x at *
      obtain ⟨xk, xt, xd, xv⟩ := x
      have HXX := hide hxx
      simp only [C.k, C.t, C.d, C.v] at x0 x1 x2 x3 y0 y1 y2 y3 D
      clear hz hxx
      by_cases hz0 : z < 0
      · have hd : decide (z < 0) = true := by simpa using hz0
        go_wp2_with fail
        refine wp_region_bel hfu (by kernel_rfl) ?_
        repeat (go_big_quiet_step (first | (go_at_call 22; refine calls_by (D.out _))))
        refine wpQuiet_nil ?_
        rintro W1 ⟨p1, rfl⟩
        go_wp2_with fail
        exact ⟨⟨k + 1, by omega, by go_num, (unhide HB).trans p1.h, hide (HNX.out hz0)⟩, by simp [intOf]; omega⟩
      · have hd : decide (z < 0) = false := by simpa using hz0
        by_cases hz1 : z = 0
        · have hz2 : (z == 0) = true := by simpa using hz1
          go_wp2_with fail
          refine wp_region_bel hfu (by kernel_rfl) ?_
          repeat (go_big_quiet_step (first | (go_at_call 22; refine calls_by (D.out _))))
          refine wpQuiet_nil ?_
          rintro W1 ⟨p1, rfl⟩
          have HW1 := hide ((unhide HB).trans p1.h)
          generalize p1.W = W1 at HW1 ⊢
          have HI2 : Hid (ins (k0, t0, d0, v0) L = L.take k ++ [(k0, t0, d0, v0)] ++ L.drop (k + 1)) := hide (ins_at k HI.out (ins_eq hkl (by rw [HXX.out, HZ.out]; exact hz1)))
          have hq1 : (0 : Int) ≤ (k : Int) := by omega
          have hq2 : (k : Int) ≤ (cap : Int) := by omega
          have hq3 : (k : Int) ≤ (N : Int) := by omega
          go_wp2_with (first | (at_builtin; refine app_one (k0, t0, d0, v0) (unhide HO2) (unhide HB2).size (by have := HLM.out; omega) rfl _ _ rfl rfl _ (by simp) rfl ?_; intro g3 cap3 w3 ho3 hg3 hat3; have HO3 := hide ho3; have HB3 : Hid (Bel W0 w3) := hide (Below.trans ((unhide HB2).trans ((Bel.refl _).alloc _)) (grown_bel hg3 (Nat.le_trans (unhide HB2).size (by simp)) (fun k hk => ((unhide HO2).lt hk).1))); clear ho3 hg3 hat3) | (at_builtin; refine app_rv (base := W0.heap.size) (M := L.take k) (OR.nil _ _) (unhide HW1).size (RV.take ((unhide HR).bel (unhide HW1)) (unhide HC) k (by have := HN.out; omega)) (by have := HN.out; simp; omega) rfl _ _ rfl rfl rfl ?_; intro v2 w2 ho2 hg2; obtain ⟨M2, hM2⟩ : ∃ M2, M2 = L.take k := ⟨_, rfl⟩; have HLM : Hid (M2.length ≤ k) := hide (by rw [hM2]; simp; omega); have HO2 : Hid (OR W0.heap.size w2 v2 M2) := hide (by rw [hM2]; exact ho2); have HM2 := hide hM2; clear hM2; have HB2 : Hid (Bel W0 w2) := hide (Below.trans (unhide HW1) (grown_bel hg2 (unhide HW1).size (fun k hk => by simp [Value.ownBlock] at hk))); obtain ⟨r0, r1, r2, r3⟩ := (unhide HBX).bel (unhide HB2); simp only [C.k, C.t, C.d, C.v] at r0 r1 r2 r3; clear ho2 hg2))
          have hne3 := BelBy.some w3
          obtain ⟨s0, s1, s2, s3⟩ := N4.row ((unhide HR).bel (unhide HB3)) hkl
          rw [HXX.out] at s0 s1 s2 s3
          obtain ⟨m0, m1, m2, m3⟩ := ((unhide HBX).bel (unhide HB3)).all
          simp only [C.k, C.t, C.d, C.v] at s0 s1 s2 s3 m0 m1 m2 m3
          refine wp_region_bel hfu (by kernel_rfl) ?_
          repeat (go_big_quiet_step (first | (go_at_call 22; refine calls_by (D.out _))))
          refine wpQuiet_nil ?_
          rintro W4 ⟨p4, rfl⟩
          have HB4 := hide ((unhide HB3).trans p4.h)
          have HO4 := hide ((unhide HO3).bel p4.h)
          generalize p4.W = W4 at HB4 HO4 ⊢
          have hw : IntKind.i64.wrap ((k : Int) + 1) = ((k + 1 : Nat) : Int) := by rw [wrapI (by omega) (by omega)]; omega
          have hq1' : (0 : Int) ≤ ((k + 1 : Nat) : Int) := by omega
          have hq2' : ((k + 1 : Nat) : Int) ≤ (cap : Int) := by omega
          have hq3' : ((k + 1 : Nat) : Int) ≤ (N : Int) := by omega
          generalize hk1 : k + 1 = j at *
          have hjn : j ≤ L.length := by omega
          have HDR := hide (RV.drop ((unhide HR).bel (unhide HB4)) (unhide HC) j hjn _ rfl)
          rw [HN.out] at HDR
          generalize hA : (if cap = j then (some ⟨g, off, none⟩ : Option Addr) else some ⟨g, off + j * 4, none⟩) = A at HDR
          go_wp2_with (at_builtin; (refine app_rv (base := W0.heap.size) (M := L.drop j) (unhide HO4) (unhide HB4).size (unhide HDR) (by have := HN.out; have := HLM.out; simp; omega) rfl _ _ rfl rfl rfl ?_; intro v5 w5 ho5 hg5; have HO5 := hide ho5; have HB5 : Hid (Bel W0 w5) := hide (Below.trans (unhide HB4) (grown_bel hg5 (unhide HB4).size (fun k hk => ((unhide HO4).lt hk).1))); clear ho5 hg5))
          go_ret
          exact ⟨_, rfl, (unhide HB0).trans (unhide HB5), by rw [HI2.out, ← HM2.out]; exact (unhide HO5).sv⟩
        · have hz2 : (z == 0) = false := by simpa using hz1
          go_wp2_with fail
          refine wp_region_bel hfu (by kernel_rfl) ?_
          repeat (go_big_quiet_step (first | (go_at_call 22; refine calls_by (D.out _))))
          refine wpQuiet_nil ?_
          rintro W1 ⟨p1, rfl⟩
          have HW1 := hide ((unhide HB).trans p1.h)
          generalize p1.W = W1 at HW1 ⊢
          have HI2 : Hid (ins (k0, t0, d0, v0) L = L.take k ++ [(k0, t0, d0, v0)] ++ L.drop k) := hide (ins_at k HI.out (ins_gt hkl (by rw [HXX.out, HZ.out]; omega) (by rw [HXX.out, HZ.out]; exact hz1)))
          have hq1 : (0 : Int) ≤ (k : Int) := by omega
          have hq2 : (k : Int) ≤ (cap : Int) := by omega
          have hq3 : (k : Int) ≤ (N : Int) := by omega
          go_wp2_with (first | (at_builtin; refine app_one (k0, t0, d0, v0) (unhide HO2) (unhide HB2).size (by have := HLM.out; omega) rfl _ _ rfl rfl _ (by simp) rfl ?_; intro g3 cap3 w3 ho3 hg3 hat3; have HO3 := hide ho3; have HB3 : Hid (Bel W0 w3) := hide (Below.trans ((unhide HB2).trans ((Bel.refl _).alloc _)) (grown_bel hg3 (Nat.le_trans (unhide HB2).size (by simp)) (fun k hk => ((unhide HO2).lt hk).1))); clear ho3 hg3 hat3) | (at_builtin; refine app_rv (base := W0.heap.size) (M := L.take k) (OR.nil _ _) (unhide HW1).size (RV.take ((unhide HR).bel (unhide HW1)) (unhide HC) k (by have := HN.out; omega)) (by have := HN.out; simp; omega) rfl _ _ rfl rfl rfl ?_; intro v2 w2 ho2 hg2; obtain ⟨M2, hM2⟩ : ∃ M2, M2 = L.take k := ⟨_, rfl⟩; have HLM : Hid (M2.length ≤ k) := hide (by rw [hM2]; simp; omega); have HO2 : Hid (OR W0.heap.size w2 v2 M2) := hide (by rw [hM2]; exact ho2); have HM2 := hide hM2; clear hM2; have HB2 : Hid (Bel W0 w2) := hide (Below.trans (unhide HW1) (grown_bel hg2 (unhide HW1).size (fun k hk => by simp [Value.ownBlock] at hk))); obtain ⟨r0, r1, r2, r3⟩ := (unhide HBX).bel (unhide HB2); simp only [C.k, C.t, C.d, C.v] at r0 r1 r2 r3; clear ho2 hg2))
          have hne3 := BelBy.some w3
          obtain ⟨s0, s1, s2, s3⟩ := N4.row ((unhide HR).bel (unhide HB3)) hkl
          rw [HXX.out] at s0 s1 s2 s3
          obtain ⟨m0, m1, m2, m3⟩ := ((unhide HBX).bel (unhide HB3)).all
          simp only [C.k, C.t, C.d, C.v] at s0 s1 s2 s3 m0 m1 m2 m3
          refine wp_region_bel hfu (by kernel_rfl) ?_
          repeat (go_big_quiet_step (first | (go_at_call 22; refine calls_by (D.out _))))
          refine wpQuiet_nil ?_
          rintro W4 ⟨p4, rfl⟩
          have HB4 := hide ((unhide HB3).trans p4.h)
          have HO4 := hide ((unhide HO3).bel p4.h)
          generalize p4.W = W4 at HB4 HO4 ⊢
          have hjn : k ≤ L.length := by have := HN.out; omega
          have HDR := hide (RV.drop ((unhide HR).bel (unhide HB4)) (unhide HC) k hjn _ rfl)
          rw [HN.out] at HDR
          rw [if_neg (show ¬ cap = k by omega)] at HDR
          go_wp2_with (at_builtin; (refine app_rv (base := W0.heap.size) (M := L.drop k) (unhide HO4) (unhide HB4).size (unhide HDR) (by have := HN.out; have := HLM.out; simp; omega) rfl _ _ rfl rfl rfl ?_; intro v5 w5 ho5 hg5; have HO5 := hide ho5; have HB5 : Hid (Bel W0 w5) := hide (Below.trans (unhide HB4) (grown_bel hg5 (unhide HB4).size (fun k hk => ((unhide HO4).lt hk).1))); clear ho5 hg5))
          go_ret
          exact ⟨_, rfl, (unhide HB0).trans (unhide HB5), by rw [HI2.out, ← HM2.out]; exact (unhide HO5).sv⟩
    · have hki : ¬ (k : Int) < (N : Int) := by omega
      have hki' : decide ((k : Int) < (N : Int)) = false := by simpa using hki
      go_wp2_with fail
      refine wp_region_bel hfu (by kernel_rfl) ?_
      repeat (go_big_quiet_step (fail))
      refine wpQuiet_nil ?_
      rintro W1 ⟨p1, rfl⟩
      have HW1 := hide ((unhide HB).trans p1.h)
      generalize p1.W = W1 at HW1 ⊢
      have HI2 : Hid (ins (k0, t0, d0, v0) L = L.take k ++ [(k0, t0, d0, v0)] ++ L.drop k) := hide (ins_at k HI.out (by rw [show k = L.length by have := HN.out; omega]; exact ins_end))
      have hq1 : (0 : Int) ≤ (k : Int) := by omega
      have hq2 : (k : Int) ≤ (cap : Int) := by omega
      have hq3 : (k : Int) ≤ (N : Int) := by omega
      go_wp2_with (first | (at_builtin; refine app_one (k0, t0, d0, v0) (unhide HO2) (unhide HB2).size (by have := HLM.out; omega) rfl _ _ rfl rfl _ (by simp) rfl ?_; intro g3 cap3 w3 ho3 hg3 hat3; have HO3 := hide ho3; have HB3 : Hid (Bel W0 w3) := hide (Below.trans ((unhide HB2).trans ((Bel.refl _).alloc _)) (grown_bel hg3 (Nat.le_trans (unhide HB2).size (by simp)) (fun k hk => ((unhide HO2).lt hk).1))); clear ho3 hg3 hat3) | (at_builtin; refine app_rv (base := W0.heap.size) (M := L.take k) (OR.nil _ _) (unhide HW1).size (RV.take ((unhide HR).bel (unhide HW1)) (unhide HC) k (by have := HN.out; omega)) (by have := HN.out; simp; omega) rfl _ _ rfl rfl rfl ?_; intro v2 w2 ho2 hg2; obtain ⟨M2, hM2⟩ : ∃ M2, M2 = L.take k := ⟨_, rfl⟩; have HLM : Hid (M2.length ≤ k) := hide (by rw [hM2]; simp; omega); have HO2 : Hid (OR W0.heap.size w2 v2 M2) := hide (by rw [hM2]; exact ho2); have HM2 := hide hM2; clear hM2; have HB2 : Hid (Bel W0 w2) := hide (Below.trans (unhide HW1) (grown_bel hg2 (unhide HW1).size (fun k hk => by simp [Value.ownBlock] at hk))); obtain ⟨r0, r1, r2, r3⟩ := (unhide HBX).bel (unhide HB2); simp only [C.k, C.t, C.d, C.v] at r0 r1 r2 r3; clear ho2 hg2))
      have hne3 := BelBy.some w3
      refine wp_region_bel hfu (by kernel_rfl) ?_
      repeat (go_big_quiet_step (fail))
      refine wpQuiet_nil ?_
      rintro W4 ⟨p4, rfl⟩
      have HB4 := hide ((unhide HB3).trans p4.h)
      have HO4 := hide ((unhide HO3).bel p4.h)
      generalize p4.W = W4 at HB4 HO4 ⊢
      have hjn : k ≤ L.length := by have := HN.out; omega
      have HDR := hide (RV.drop ((unhide HR).bel (unhide HB4)) (unhide HC) k hjn _ rfl)
      rw [HN.out] at HDR
      generalize hA : (if cap = k then (some ⟨g, off, none⟩ : Option Addr) else some ⟨g, off + k * 4, none⟩) = A at HDR
      go_wp2_with (at_builtin; (refine app_rv (base := W0.heap.size) (M := L.drop k) (unhide HO4) (unhide HB4).size (unhide HDR) (by have := HN.out; have := HLM.out; simp; omega) rfl _ _ rfl rfl rfl ?_; intro v5 w5 ho5 hg5; have HO5 := hide ho5; have HB5 : Hid (Bel W0 w5) := hide (Below.trans (unhide HB4) (grown_bel hg5 (unhide HB4).size (fun k hk => ((unhide HO4).lt hk).1))); clear ho5 hg5))
      go_ret
      exact ⟨_, rfl, (unhide HB0).trans (unhide HB5), by rw [HI2.out, ← HM2.out]; exact (unhide HO5).sv⟩
end Go.Proofs.Ytkpallbnmckbaaa
