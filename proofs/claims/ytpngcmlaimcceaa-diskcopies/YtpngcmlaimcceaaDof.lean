/- The document's Do: Append. -/
import Derived.Test.YtpngcmlaimcceaaDoe
namespace Go.Proofs.Ytpngcmlaimcceaa
open Go.RowKit Go.Maps Go.WideMaps
set_option maxRecDepth 100000 in
set_option maxHeartbeats 40000000 in
theorem ddo_app {C : Nat} {w : World} {p : Nat} {d : PD} {M B : Nat → Prop} (h : Dx C w p d M B) (n t : List UInt8) (hol : d.ops.length ≤ 1000000) (hC : C + 2 * t.length ≤ 1099511627776) :
    Calls Try.prog 28 #[.pointer (some ⟨p, 0, none⟩), .agg #[.int .i64 1, .string ⟨n.toArray⟩, .string ⟨t.toArray⟩, .int .i64 0]] w fun e w' => e = .returned (.int .i64 (d.app n t).1) ∧ Afx (C + t.length) w p M B (d.app n t).2 w' := by
  have hfu := Try.follows
  have h49 := hide (fun W => may_any n W)
  cases hb : badN n
  · rw [hb] at h49
    have HB := hide hb
    have hlen : d.seen.length ≤ 4096 := h.fine.len
    have htot : tot d.seen ≤ C := h.fine.tot
    have hroom := h.room
    obtain ⟨vk, vo, vn, h1, hMp, hMo, hBk, hBn⟩ := h.co
    obtain ⟨an, cn, gn, hvn, _, _, _⟩ := h1.now.shape
    have h50 := hide (fun W (hb : Bel w W) => dfind_any d.seen vn n W (h1.now.bel hb) (by omega))
    have h11 := hide (fun W (hb : Bel w W) => dused_any (h.bel hb) (by omega))
    have H := hide h
    have H1 := hide h1
    obtain ⟨W0, hW0⟩ : ∃ W0, W0 = w.alloc (.cells #[.int .i64 1, .string ⟨n.toArray⟩, .string ⟨t.toArray⟩, .int .i64 0] 60) := ⟨_, rfl⟩
    have q0 : Hid (Dq w p vk vo vn d.room (.int .i64 1) (.string ⟨n.toArray⟩) (.string ⟨t.toArray⟩) (.int .i64 0) W0) := ⟨by rw [hW0]; exact (Bel.refl w).alloc _, by rw [hW0]; exact ((Bel.refl w).alloc _).row h1.row, by rw [hW0]; exact at_new w _⟩
    have HW0 := hide hW0
    clear hW0 hb h h1
    subst hvn
    go_enter Try.func28, Try.ntmps28
    go_wp2_with (go_at_call 49; refine ((unhide h49) _).mono ?_; rintro e w1 ⟨rfl, hw1⟩; subst hw1)
    rw [← unhide HW0]
    have HOK : Hid (ok5 d.seen (.app n t)) := okN_of (unhide HB)
    have HTX : Hid (tot d.seen + (oT (.app n t)).length ≤ 1099511627776) := by show tot d.seen + t.length ≤ _; omega
    have hwk : IntKind.i64.wrap ((tot d.seen : Int) + (t.length : Int)) = (tot d.seen : Int) + (t.length : Int) := wrapI (by omega) (by omega)
    obtain ⟨W1, hW1⟩ : ∃ W1, W1 = W0.drew := ⟨_, rfl⟩
    have q1 : Hid (Dq w p vk vo (.slice an d.seen.length cn) d.room (.int .i64 1) (.string ⟨n.toArray⟩) (.string ⟨t.toArray⟩) (.int .i64 0) W1) := by rw [hW1]; exact (unhide q0).drew
    obtain ⟨ka1, kb1, kc1, kd1, ke1, kf1, kg1⟩ := (unhide q1).b0
    refine wp_region_still_tail 6 hfu (by kernel_rfl) ?_
    change wpStill _ _ (World.drew _) (fun a' => wpList _ _ _ _ a' (World.drew _)) _ _
    simp only [List.take_succ_cons, List.take_zero, List.drop_succ_cons, List.drop_zero]
    rw [← hW1]
    clear hW1
    repeat still_step
    refine wpStill_nil ?_
    go_wp2_with fail
    refine ((unhide h50) W1 (unhide q1).bel).mono ?_
    rintro e w2 ⟨⟨i, rfl, hi⟩, hw2⟩
    rw [hw2]
    clear hw2
    rcases hi with ⟨rfl, hno⟩ | ⟨k, rfl, hk, hh, hx1, hx2⟩
    · have HN := hide hno
      clear hno
      by_cases hA : (d.room : Int) < (tot d.seen : Int) + (t.length : Int)
      · have hres : Hid (d.app n t = (6, d)) := by
          unfold PD.app PD.grow
          rw [unhide HB, if_neg (by simp), if_pos (Or.inl (by omega))]; rfl
        go_wp2_with fail
        obtain ⟨W2, hW2⟩ : ∃ W2, W2 = W1.drew := ⟨_, rfl⟩
        have q2 : Hid (Dq w p vk vo (.slice an d.seen.length cn) d.room (.int .i64 1) (.string ⟨n.toArray⟩) (.string ⟨t.toArray⟩) (.int .i64 0) W2) := by rw [hW2]; exact (unhide q1).drew
        obtain ⟨ka2, kb2, kc2, kd2, ke2, kf2, kg2⟩ := (unhide q2).b0
        refine wp_region_still_lit hfu (by kernel_rfl) ?_
        change wpStill _ _ (World.drew _) (fun a' => (_ : Exit → Act → World → Prop) Exit.normal a' (World.drew _)) _ _
        rw [← hW2]
        clear hW2
        repeat still_step
        still_call ((unhide h11) W2 (unhide q2).bel)
        repeat still_step
        refine wpStill_nil ?_
        go_wp2_with fail
        go_ret
        rw [unhide hres]
        exact ⟨rfl, ((unhide H).mono (by omega)).aft (unhide q2).bel⟩
      · by_cases hL : d.seen.length = 4096
        · have hres : Hid (d.app n t = (6, d)) := by
            unfold PD.app PD.grow
            rw [unhide HB, if_neg (by simp), if_pos (Or.inr ⟨unhide HN, hL⟩)]; rfl
          have hL2 : (4096 : Int) ≤ (d.seen.length : Int) := by omega
          go_wp2_with fail
          obtain ⟨W2, hW2⟩ : ∃ W2, W2 = W1.drew := ⟨_, rfl⟩
          have q2 : Hid (Dq w p vk vo (.slice an d.seen.length cn) d.room (.int .i64 1) (.string ⟨n.toArray⟩) (.string ⟨t.toArray⟩) (.int .i64 0) W2) := by rw [hW2]; exact (unhide q1).drew
          obtain ⟨ka2, kb2, kc2, kd2, ke2, kf2, kg2⟩ := (unhide q2).b0
          refine wp_region_still_lit hfu (by kernel_rfl) ?_
          change wpStill _ _ (World.drew _) (fun a' => (_ : Exit → Act → World → Prop) Exit.normal a' (World.drew _)) _ _
          rw [← hW2]
          clear hW2
          repeat still_step
          still_call ((unhide h11) W2 (unhide q2).bel)
          repeat still_step
          refine wpStill_nil ?_
          go_wp2_with fail
          go_ret
          rw [unhide hres]
          exact ⟨rfl, ((unhide H).mono (by omega)).aft (unhide q2).bel⟩
        · have hnot : Hid (¬ (hasF d.seen n = false ∧ d.seen.length = 4096)) := fun h => hL h.2
          have hres : Hid (d.app n t = (0, (d.done (.app n t)).2)) := by
            unfold PD.app PD.grow
            rw [unhide HB, if_neg (by simp), if_neg (by rintro (h | h); omega; exact hL h.2)]; rfl
          have hL2 : ¬ (4096 : Int) ≤ (d.seen.length : Int) := by have := (unhide H).fine.len; omega
          have HFI : Hid (Fine (C + t.length) (run5 d.seen (.app n t))) := put_fine ((unhide H).mono (C' := C + t.length) (by omega)).fine (okN_of (unhide HB)) (by have : (tot (put d.seen n (get d.seen n ++ t)) : Int) - (tot d.seen : Int) = t.length := run_tot (unhide H).fine.srt n t; omega) (unhide hnot)
          go_wp2_with fail
          obtain ⟨W2, hW2⟩ : ∃ W2, W2 = W1.drew := ⟨_, rfl⟩
          have q2 : Hid (Dq w p vk vo (.slice an d.seen.length cn) d.room (.int .i64 1) (.string ⟨n.toArray⟩) (.string ⟨t.toArray⟩) (.int .i64 0) W2) := by rw [hW2]; exact (unhide q1).drew
          obtain ⟨ka2, kb2, kc2, kd2, ke2, kf2, kg2⟩ := (unhide q2).b0
          refine wp_region_still_lit hfu (by kernel_rfl) ?_
          change wpStill _ _ (World.drew _) (fun a' => (_ : Exit → Act → World → Prop) Exit.normal a' (World.drew _)) _ _
          rw [← hW2]
          clear hW2
          repeat still_step
          still_call ((unhide h11) W2 (unhide q2).bel)
          repeat still_step
          refine wpStill_nil ?_
          go_wp2_with fail
          have h52 := hide (ddoes_any d.seen _ (.app n t) W2.drew ((unhide H1).now.bel (unhide q2).bel.drew) (by omega) (unhide H).fine.srt (unhide HOK) (unhide HTX))
          have fz := free_row (p := 3) (unhide q2).row
          obtain ⟨i0, hi60, hz0, hz1, hz2⟩ := Try.i60
          go_region_with (first | (go_at_call 52; refine (unhide h52).mono ?_; rintro e w3 ⟨v', rfl, hro⟩; obtain ⟨aq, cq, gq, hvq, hvr⟩ := hro.rf.shape; clear hvr; subst hvq; obtain ⟨z1, z2, HD4⟩ := do_mid (unhide H1) (unhide q2).drew hro; clear hro))
          all_goals
            obtain ⟨w4, hw4⟩ : ∃ w4, w4 = w3.setCell ⟨p, 3, none⟩ (.slice aq (run5 d.seen (.app n t)).length cq) := ⟨_, rfl⟩
            rw [← hw4]
            rw [← hw4] at HD4
            clear hw4 z1 z2 h52 fz
            have y2 : w4.cell? ⟨p, 2, none⟩ = some vo := cell_of (unhide HD4).1.row
            have y2A : ∀ o, (w4.alloc o).cell? ⟨p, 2, none⟩ = some vo := fun o => cell_of (((Bel.refl _).alloc o).row (unhide HD4).1.row)
            have hbx := (unhide HD4).2.1
            have y4 : w4.cell? ⟨w.heap.size, 0, none⟩ = some (.int .i64 1) := cell_of hbx
            have y5 : w4.cell? ⟨w.heap.size, 1, none⟩ = some (.string ⟨n.toArray⟩) := cell_of hbx
            have y6 : w4.cell? ⟨w.heap.size, 2, none⟩ = some (.string ⟨t.toArray⟩) := cell_of hbx
            have y7 : w4.cell? ⟨w.heap.size, 3, none⟩ = some (.int .i64 0) := cell_of hbx
            clear hbx
            go_wp2_with fail
            go_region_law ((first | (refine step_append_lies _ rfl _ _ 32 rfl 0 60 i0 (.agg #[.int .i64 0, .string ⟨#[]⟩, .string ⟨#[]⟩, .int .i64 0]) 4 48 Try.underlying32 hi60 hz0 hz1 hz2 rfl (by decide) vo d.ops.length _ rfl ((unhide HD4).1.ops.drew.alloc _) ⟨w4.heap.size, 0, none⟩ 1 1 [(.int .i64 1), (.string ⟨n.toArray⟩), (.string ⟨t.toArray⟩), (.int .i64 0)] rfl rfl (World.news_of_block (at_new w4.drew _)) (by simp [Value.oneCell']) (by decide) (by unfold maxLen; omega) (by omega) (Nat.zero_le _) (w4.heap.size + 1) (by simp) ?_; intro g cp w5 hown hgrow hat hlt; obtain ⟨x1, x2, HF⟩ := do_fin (C := C + t.length) (o := .app n t) ((unhide H).mono (by omega)) hMp hMo hBk (unhide HOK) (unhide HFI) (unhide HD4).1 (unhide HD4).2.2.1 (unhide HD4).2.2.2 rfl hown hgrow hat)))
            all_goals
              go_wp2_with fail
              go_ret
              rw [unhide hres]
              exact ⟨rfl, unhide HF⟩
    · have HH := hide hh
      clear hh hx1 hx2
      by_cases hA : (d.room : Int) < (tot d.seen : Int) + (t.length : Int)
      · have hres : Hid (d.app n t = (6, d)) := by
          unfold PD.app PD.grow
          rw [unhide HB, if_neg (by simp), if_pos (Or.inl (by omega))]; rfl
        go_wp2_with fail
        obtain ⟨W2, hW2⟩ : ∃ W2, W2 = W1.drew := ⟨_, rfl⟩
        have q2 : Hid (Dq w p vk vo (.slice an d.seen.length cn) d.room (.int .i64 1) (.string ⟨n.toArray⟩) (.string ⟨t.toArray⟩) (.int .i64 0) W2) := by rw [hW2]; exact (unhide q1).drew
        obtain ⟨ka2, kb2, kc2, kd2, ke2, kf2, kg2⟩ := (unhide q2).b0
        refine wp_region_still_lit hfu (by kernel_rfl) ?_
        change wpStill _ _ (World.drew _) (fun a' => (_ : Exit → Act → World → Prop) Exit.normal a' (World.drew _)) _ _
        rw [← hW2]
        clear hW2
        repeat still_step
        still_call ((unhide h11) W2 (unhide q2).bel)
        repeat still_step
        refine wpStill_nil ?_
        go_wp2_with fail
        go_ret
        rw [unhide hres]
        exact ⟨rfl, ((unhide H).mono (by omega)).aft (unhide q2).bel⟩
      · have hnot : Hid (¬ (hasF d.seen n = false ∧ d.seen.length = 4096)) := fun h => by rw [unhide HH] at h; cases h.1
        have hres : Hid (d.app n t = (0, (d.done (.app n t)).2)) := by
          unfold PD.app PD.grow
          rw [unhide HB, if_neg (by simp), if_neg (by rintro (h | h); omega; exact (unhide hnot) h)]; rfl
        have HFI : Hid (Fine (C + t.length) (run5 d.seen (.app n t))) := put_fine ((unhide H).mono (C' := C + t.length) (by omega)).fine (okN_of (unhide HB)) (by have : (tot (put d.seen n (get d.seen n ++ t)) : Int) - (tot d.seen : Int) = t.length := run_tot (unhide H).fine.srt n t; omega) (unhide hnot)
        go_wp2_with fail
        obtain ⟨W2, hW2⟩ : ∃ W2, W2 = W1.drew := ⟨_, rfl⟩
        have q2 : Hid (Dq w p vk vo (.slice an d.seen.length cn) d.room (.int .i64 1) (.string ⟨n.toArray⟩) (.string ⟨t.toArray⟩) (.int .i64 0) W2) := by rw [hW2]; exact (unhide q1).drew
        obtain ⟨ka2, kb2, kc2, kd2, ke2, kf2, kg2⟩ := (unhide q2).b0
        refine wp_region_still_lit hfu (by kernel_rfl) ?_
        change wpStill _ _ (World.drew _) (fun a' => (_ : Exit → Act → World → Prop) Exit.normal a' (World.drew _)) _ _
        rw [← hW2]
        clear hW2
        repeat still_step
        still_call ((unhide h11) W2 (unhide q2).bel)
        repeat still_step
        refine wpStill_nil ?_
        go_wp2_with fail
        have h52 := hide (ddoes_any d.seen _ (.app n t) W2.drew ((unhide H1).now.bel (unhide q2).bel.drew) (by omega) (unhide H).fine.srt (unhide HOK) (unhide HTX))
        have fz := free_row (p := 3) (unhide q2).row
        obtain ⟨i0, hi60, hz0, hz1, hz2⟩ := Try.i60
        go_region_with (first | (go_at_call 52; refine (unhide h52).mono ?_; rintro e w3 ⟨v', rfl, hro⟩; obtain ⟨aq, cq, gq, hvq, hvr⟩ := hro.rf.shape; clear hvr; subst hvq; obtain ⟨z1, z2, HD4⟩ := do_mid (unhide H1) (unhide q2).drew hro; clear hro))
        all_goals
          obtain ⟨w4, hw4⟩ : ∃ w4, w4 = w3.setCell ⟨p, 3, none⟩ (.slice aq (run5 d.seen (.app n t)).length cq) := ⟨_, rfl⟩
          rw [← hw4]
          rw [← hw4] at HD4
          clear hw4 z1 z2 h52 fz
          have y2 : w4.cell? ⟨p, 2, none⟩ = some vo := cell_of (unhide HD4).1.row
          have y2A : ∀ o, (w4.alloc o).cell? ⟨p, 2, none⟩ = some vo := fun o => cell_of (((Bel.refl _).alloc o).row (unhide HD4).1.row)
          have hbx := (unhide HD4).2.1
          have y4 : w4.cell? ⟨w.heap.size, 0, none⟩ = some (.int .i64 1) := cell_of hbx
          have y5 : w4.cell? ⟨w.heap.size, 1, none⟩ = some (.string ⟨n.toArray⟩) := cell_of hbx
          have y6 : w4.cell? ⟨w.heap.size, 2, none⟩ = some (.string ⟨t.toArray⟩) := cell_of hbx
          have y7 : w4.cell? ⟨w.heap.size, 3, none⟩ = some (.int .i64 0) := cell_of hbx
          clear hbx
          go_wp2_with fail
          go_region_law ((first | (refine step_append_lies _ rfl _ _ 32 rfl 0 60 i0 (.agg #[.int .i64 0, .string ⟨#[]⟩, .string ⟨#[]⟩, .int .i64 0]) 4 48 Try.underlying32 hi60 hz0 hz1 hz2 rfl (by decide) vo d.ops.length _ rfl ((unhide HD4).1.ops.drew.alloc _) ⟨w4.heap.size, 0, none⟩ 1 1 [(.int .i64 1), (.string ⟨n.toArray⟩), (.string ⟨t.toArray⟩), (.int .i64 0)] rfl rfl (World.news_of_block (at_new w4.drew _)) (by simp [Value.oneCell']) (by decide) (by unfold maxLen; omega) (by omega) (Nat.zero_le _) (w4.heap.size + 1) (by simp) ?_; intro g cp w5 hown hgrow hat hlt; obtain ⟨x1, x2, HF⟩ := do_fin (C := C + t.length) (o := .app n t) ((unhide H).mono (by omega)) hMp hMo hBk (unhide HOK) (unhide HFI) (unhide HD4).1 (unhide HD4).2.2.1 (unhide HD4).2.2.2 rfl hown hgrow hat)))
          all_goals
            go_wp2_with fail
            go_ret
            rw [unhide hres]
            exact ⟨rfl, unhide HF⟩
  · rw [hb] at h49
    have hres : Hid (d.app n t = (2, d)) := by unfold PD.app; rw [hb, if_pos rfl]; rfl
    have H := hide h
    clear hb h
    go_enter Try.func28, Try.ntmps28
    go_wp2_with (go_at_call 49; refine ((unhide h49) _).mono ?_; rintro e w1 ⟨rfl, hw1⟩; subst hw1)
    go_ret
    rw [unhide hres]
    exact ⟨rfl, ((unhide H).mono (by omega)).aft ((Bel.refl w).alloc _)⟩
end Go.Proofs.Ytpngcmlaimcceaa
