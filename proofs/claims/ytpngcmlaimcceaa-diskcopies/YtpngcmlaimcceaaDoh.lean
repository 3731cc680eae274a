/- The document's Do: Trunc. -/
import Derived.Test.YtpngcmlaimcceaaDoq
import Derived.Test.YtpngcmlaimcceaaFns
namespace Go.Proofs.Ytpngcmlaimcceaa
open Go.RowKit Go.Maps Go.WideMaps
set_option maxRecDepth 100000 in
set_option maxHeartbeats 40000000 in
theorem ddo_tr {C : Nat} {w : World} {p : Nat} {d : PD} {M B : Nat → Prop} (h : Dx C w p d M B) (n : List UInt8) (k : Int) (hol : d.ops.length ≤ 1000000) (hC : C ≤ 1099511627776) :
    Calls Try.prog 28 #[.pointer (some ⟨p, 0, none⟩), .agg #[(.int .i64 3), (.string ⟨n.toArray⟩), (.string ⟨#[]⟩), (.int .i64 k)]] w fun e w' => e = .returned (.int .i64 (d.tr n k).1) ∧ Afx (C) w p M B (d.tr n k).2 w' := by
  have hfu := Try.follows
  have h49 := hide (fun W => may_any n W)
  cases hb : badN n
  · rw [hb] at h49
    have HB := hide hb
    clear hb
    have hlen : d.seen.length ≤ 4096 := h.fine.len
    have htot : tot d.seen ≤ C := h.fine.tot
    have hroom := h.room
    obtain ⟨vk, vo, vn, h1, hMp, hMo, hBk, hBn⟩ := h.co
    obtain ⟨an, cn, gn, hvn, _, _, _⟩ := h1.now.shape
    have h50 := hide (fun W (hb : Bel w W) => dfind_any d.seen vn n W (h1.now.bel hb) (by omega))
    have h51 := hide (fun W (hb : Bel w W) => dbytes_any d.seen vn n W (h1.now.bel hb) (by omega))
    have H := hide h
    have H1 := hide h1
    obtain ⟨W0, hW0⟩ : ∃ W0, W0 = w.alloc (.cells #[(.int .i64 3), (.string ⟨n.toArray⟩), (.string ⟨#[]⟩), (.int .i64 k)] 60) := ⟨_, rfl⟩
    have q0 : Hid (Dq w p vk vo vn d.room (.int .i64 3) (.string ⟨n.toArray⟩) (.string ⟨#[]⟩) (.int .i64 k) W0) := ⟨by rw [hW0]; exact (Bel.refl w).alloc _, by rw [hW0]; exact ((Bel.refl w).alloc _).row h1.row, by rw [hW0]; exact at_new w _⟩
    have HW0 := hide hW0
    clear hW0 h h1
    subst hvn
    go_enter Try.func28, Try.ntmps28
    go_wp2_with (go_at_call 49; refine ((unhide h49) _).mono ?_; rintro e w1 ⟨rfl, hw1⟩; subst hw1)
    rw [← unhide HW0]
    obtain ⟨W1, hW1⟩ : ∃ W1, W1 = W0.drew := ⟨_, rfl⟩
    have q1 : Hid (Dq w p vk vo (.slice an d.seen.length cn) d.room (.int .i64 3) (.string ⟨n.toArray⟩) (.string ⟨#[]⟩) (.int .i64 k) W1) := by rw [hW1]; exact (unhide q0).drew
    obtain ⟨ka1, kb1, kc1, kd1, ke1, kf1, kg1⟩ := (unhide q1).b0
    refine wp_region_still_tail 6 hfu (by kernel_rfl) ?_
    change wpStill _ _ (World.drew _) (fun a' => wpList _ _ _ _ a' (World.drew _)) _ _
    simp only [List.take_succ_cons, List.take_zero, List.drop_succ_cons, List.drop_zero]
    rw [← hW1]
    clear hW1
    repeat still_step
    refine wpStill_nil ?_
    go_wp2_with fail
    refine ((unhide h50) W1 (unhide q1).bel).mono ?_
    rintro e w2 ⟨⟨i, rfl, hi⟩, hw2⟩
    rw [hw2]
    clear hw2
    rcases hi with ⟨rfl, hno⟩ | ⟨k0, rfl, hk, hh, hx1, hx2⟩
    · have hres : Hid (d.tr n k = (5, d)) := by
        unfold PD.tr
        rw [unhide HB, if_neg (by simp), hno, if_neg (by simp)]; rfl
      clear hno
      go_wp2_with fail
      go_ret
      rw [unhide hres]
      exact ⟨rfl, ((unhide H).mono (by omega)).aft (unhide q1).bel⟩
    · have HH := hide hh
      clear hh hx1 hx2
      by_cases hk0 : k < 0
      · have hres : Hid (d.tr n k = (2, d)) := by
          unfold PD.tr
          rw [unhide HB, if_neg (by simp), unhide HH, if_pos rfl, if_pos (Or.inl hk0)]; rfl
        go_wp2_with fail
        have hne1 := BelBy.some W1
        have va1 := fun q : BelBy W1 => (Dq.on (unhide q1) q.h).b0.1
        have vb1 := fun q : BelBy W1 => (Dq.on (unhide q1) q.h).b0.2.1
        have vd1 := fun q : BelBy W1 => (Dq.on (unhide q1) q.h).b0.2.2.2.1
        have vf1 := fun q : BelBy W1 => (Dq.on (unhide q1) q.h).b0.2.2.2.2.2.1
        refine wp_region_bel hfu (by kernel_rfl) ?_
        repeat (go_big_quiet_step (fail))
        refine wpQuiet_nil ?_
        rintro WX ⟨p2, rfl⟩
        have q2 := hide (Dq.on (unhide q1) p2.h)
        generalize p2.W = W2 at q2
        obtain ⟨ka2, kb2, kc2, kd2, ke2, kf2, kg2⟩ := (unhide q2).b0
        go_wp2_with fail
        go_ret
        rw [unhide hres]
        exact ⟨rfl, ((unhide H).mono (by omega)).aft (unhide q2).bel⟩
      · have hkd : decide (k < 0) = false := decide_eq_false hk0
        by_cases hk1 : ((get d.seen n).length : Int) < k
        · have hres : Hid (d.tr n k = (2, d)) := by
            unfold PD.tr
            rw [unhide HB, if_neg (by simp), unhide HH, if_pos rfl, if_pos (Or.inr hk1)]; rfl
          go_wp2_with fail
          have hne1 := BelBy.some W1
          have va1 := fun q : BelBy W1 => (Dq.on (unhide q1) q.h).b0.1
          have vb1 := fun q : BelBy W1 => (Dq.on (unhide q1) q.h).b0.2.1
          have vd1 := fun q : BelBy W1 => (Dq.on (unhide q1) q.h).b0.2.2.2.1
          have vf1 := fun q : BelBy W1 => (Dq.on (unhide q1) q.h).b0.2.2.2.2.2.1
          have hcl := hide (fun q : BelBy W1 => ((unhide h51) q.W ((unhide q1).bel.trans q.h)).mono (fun _ w' (hx : _ ∧ w' = q.W) => (⟨hx.1, by rw [hx.2]; exact Bel.refl _⟩ : _ ∧ Bel q.W w')))
          refine wp_region_bel hfu (by kernel_rfl) ?_
          repeat (go_big_quiet_step (first | (go_at_call 51; refine calls_by ((unhide hcl) _))))
          refine wpQuiet_nil ?_
          rintro WX ⟨p2, rfl⟩
          have q2 := hide (Dq.on (unhide q1) p2.h)
          generalize p2.W = W2 at q2
          obtain ⟨ka2, kb2, kc2, kd2, ke2, kf2, kg2⟩ := (unhide q2).b0
          go_wp2_with fail
          go_ret
          rw [unhide hres]
          exact ⟨rfl, ((unhide H).mono (by omega)).aft (unhide q2).bel⟩
        · obtain ⟨kk, rfl⟩ : ∃ kk : Nat, k = kk := ⟨k.toNat, by omega⟩
          have hres : Hid (d.tr n kk = (0, (d.done (.tr n kk)).2)) := by
            unfold PD.tr
            rw [unhide HB, if_neg (by simp), unhide HH, if_pos rfl, if_neg (by omega)]; rfl
          have HOK : Hid (ok5 d.seen (.tr n kk)) := ⟨okN_of (unhide HB), unhide HH, by omega⟩
          have HTX : Hid (tot d.seen + (oT (.tr n kk)).length ≤ 1099511627776) := by show tot d.seen + 0 ≤ _; omega
          have HFI : Hid (Fine C (run5 d.seen (.tr n kk))) := tr_fine (unhide H).fine (unhide HOK)
          go_wp2_with fail
          have hne1 := BelBy.some W1
          have va1 := fun q : BelBy W1 => (Dq.on (unhide q1) q.h).b0.1
          have vb1 := fun q : BelBy W1 => (Dq.on (unhide q1) q.h).b0.2.1
          have vd1 := fun q : BelBy W1 => (Dq.on (unhide q1) q.h).b0.2.2.2.1
          have vf1 := fun q : BelBy W1 => (Dq.on (unhide q1) q.h).b0.2.2.2.2.2.1
          have hcl := hide (fun q : BelBy W1 => ((unhide h51) q.W ((unhide q1).bel.trans q.h)).mono (fun _ w' (hx : _ ∧ w' = q.W) => (⟨hx.1, by rw [hx.2]; exact Bel.refl _⟩ : _ ∧ Bel q.W w')))
          refine wp_region_bel hfu (by kernel_rfl) ?_
          repeat (go_big_quiet_step (first | (go_at_call 51; refine calls_by ((unhide hcl) _))))
          refine wpQuiet_nil ?_
          rintro WX ⟨p2, rfl⟩
          have q2 := hide (Dq.on (unhide q1) p2.h)
          generalize p2.W = W2 at q2
          obtain ⟨ka2, kb2, kc2, kd2, ke2, kf2, kg2⟩ := (unhide q2).b0
          go_wp2_with fail
          have h52 := hide (ddoes_any d.seen _ (.tr n kk) W2.drew ((unhide H1).now.bel (unhide q2).bel.drew) (by omega) (unhide H).fine.srt (unhide HOK) (unhide HTX))
          have fz := free_row (p := 3) (unhide q2).row
          obtain ⟨i0, hi60, hz0, hz1, hz2⟩ := Try.i60
          go_region_with (first | (go_at_call 52; refine (unhide h52).mono ?_; rintro e w3 ⟨v', rfl, hro⟩; obtain ⟨aq, cq, gq, hvq, hvr⟩ := hro.rf.shape; clear hvr; subst hvq; obtain ⟨z1, z2, HD4⟩ := do_mid (unhide H1) (unhide q2).drew hro; clear hro))
          all_goals
            obtain ⟨w4, hw4⟩ : ∃ w4, w4 = w3.setCell ⟨p, 3, none⟩ (.slice aq (run5 d.seen (.tr n kk)).length cq) := ⟨_, rfl⟩
            rw [← hw4]
            rw [← hw4] at HD4
            clear hw4 z1 z2 h52 fz
            have y2 : w4.cell? ⟨p, 2, none⟩ = some vo := cell_of (unhide HD4).1.row
            have y2A : ∀ o, (w4.alloc o).cell? ⟨p, 2, none⟩ = some vo := fun o => cell_of (((Bel.refl _).alloc o).row (unhide HD4).1.row)
            have hbx := (unhide HD4).2.1
            have y4 : w4.cell? ⟨w.heap.size, 0, none⟩ = some (.int .i64 3) := cell_of hbx
            have y5 : w4.cell? ⟨w.heap.size, 1, none⟩ = some (.string ⟨n.toArray⟩) := cell_of hbx
            have y6 : w4.cell? ⟨w.heap.size, 2, none⟩ = some (.string ⟨#[]⟩) := cell_of hbx
            have y7 : w4.cell? ⟨w.heap.size, 3, none⟩ = some (.int .i64 (kk : Int)) := cell_of hbx
            clear hbx
            go_wp2_with fail
            go_region_law ((first | (refine step_append_lies _ rfl _ _ 32 rfl 0 60 i0 (.agg #[.int .i64 0, .string ⟨#[]⟩, .string ⟨#[]⟩, .int .i64 0]) 4 48 Try.underlying32 hi60 hz0 hz1 hz2 rfl (by decide) vo d.ops.length _ rfl ((unhide HD4).1.ops.drew.alloc _) ⟨w4.heap.size, 0, none⟩ 1 1 [(.int .i64 3), (.string ⟨n.toArray⟩), (.string ⟨#[]⟩), (.int .i64 (kk : Int))] rfl rfl (World.news_of_block (at_new w4.drew _)) (by simp [Value.oneCell']) (by decide) (by unfold maxLen; omega) (by omega) (Nat.zero_le _) (w4.heap.size + 1) (by simp) ?_; intro g cp w5 hown hgrow hat hlt; obtain ⟨x1, x2, HF⟩ := do_fin (C := C) (o := .tr n kk) ((unhide H).mono (by omega)) hMp hMo hBk (unhide HOK) (unhide HFI) (unhide HD4).1 (unhide HD4).2.2.1 (unhide HD4).2.2.2 rfl hown hgrow hat)))
            all_goals
              go_wp2_with fail
              go_ret
              rw [unhide hres]
              exact ⟨rfl, unhide HF⟩
  · rw [hb] at h49
    have hres : Hid (d.tr n k = (2, d)) := by unfold PD.tr; rw [hb, if_pos rfl]; rfl
    have H := hide h
    clear hb h
    go_enter Try.func28, Try.ntmps28
    go_wp2_with (go_at_call 49; refine ((unhide h49) _).mono ?_; rintro e w1 ⟨rfl, hw1⟩; subst hw1)
    go_ret
    rw [unhide hres]
    exact ⟨rfl, (unhide H).aft ((Bel.refl w).alloc _)⟩
end Go.Proofs.Ytpngcmlaimcceaa
