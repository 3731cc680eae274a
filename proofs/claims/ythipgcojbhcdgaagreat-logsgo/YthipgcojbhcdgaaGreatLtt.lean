/- A message of logs is taken. -/
import Derived.Test.YthipgcojbhcdgaaGreatLtl
import Derived.Test.YthipgcojbhcdgaaGreatLth
namespace Go.Proofs.YthipgcojbhcdgaaGreat
open Go.RowKit Go.Maps Go.Sort
section
variable {W : World} {n T G : Nat} {s : PP} {x : Px} {m : QM} {a : Option Addr} {c : Nat}
theorem rais_ok (hok : Ok n T G s) {t : Int} (ht : t ≤ T) : Ok n T G (s.rais t) := by
  unfold PP.rais
  split
  · exact (down_nxt (V := fun _ _ => 0) hok (Or.inr ht)).ok
  · exact hok
set_option maxRecDepth 100000 in
set_option maxHeartbeats 8000000 in
theorem ltake_any (h : Pq W n s x) (hok : Ok n T G s) (hm : QOk n T G m) (hto : m.to = s.id) (hn : n ≤ 64) (hT : T ≤ 1000000) (hG : G ≤ 900000) (hs : Sl E69 W a m.ents) (hc : m.ents.length ≤ c) : Calls Tryz.prog 44 #[.agg (pc n s x), .agg (qc m a c)] W fun e w' => ∃ x' aA cA, e = .returned (.tuple #[.agg (pc n (s.ltake m).1 x'), .slice aA (s.ltake m).2.length cA, .int .i64 0]) ∧ Pg W.heap.size w' n (s.ltake m).1 x' ∧ Mo W.heap.size w' (.slice aA (s.ltake m).2.length cA) (s.ltake m).2 ∧ Bel W w' := by
  have H1 : Hid (∀ W', Bel W W' → Calls Tryz.prog 46 #[.agg (pc n s x)] W' fun e w' => e = .returned (.int .i64 0) ∧ Bel W' w') := hide (fun W' hb => may_ok (h.pw.bel hb) hok hn hT (by omega) h.cap)
  have H3 : Hid (∀ W', Bel W W' → Calls Tryz.prog 20 #[.agg (qc m a c)] W' fun e w' => e = .returned (.int .i64 0) ∧ Bel W' w') := hide (fun W' hb => qmay_ok hm hn hT (by omega) (hs.bel hb))
  have e1 : (m.to != s.id) = false := by simp [hto]
  have htT := hm.term.2
  have HRa : Hid (∀ w1, Bel W w1 → Calls Tryz.prog 75 #[.agg (pc n s x), .int .u64 m.term] w1 fun e w' => ∃ x', e = .returned (.agg (pc n (s.rais m.term) x')) ∧ Pf w1.heap.size w' n (s.rais m.term) x' ∧ Bel w1 w') := hide (fun w1 hb => raised_any (h.bel hb) hok hn hT (by omega) m.term htT)
  have hrt := rais_term (s := s) (t := m.term)
  have hro := rais_ok hok htT
  obtain ⟨r, hr⟩ : ∃ r, r = s.ltake m := ⟨_, rfl⟩
  rw [← hr]
  unfold PP.ltake at hr
  obtain ⟨sr, hsr⟩ : ∃ sr, sr = s.rais m.term := ⟨_, rfl⟩
  rw [← hsr] at hr HRa hrt hro
  obtain ⟨r1, hr1⟩ : ∃ r1, r1 = r.1 := ⟨_, rfl⟩
  obtain ⟨r2, hr2⟩ : ∃ r2, r2 = r.2 := ⟨_, rfl⟩
  rw [← hr1, ← hr2]
  rcases hm.kind with hk | hk
  · rw [if_pos hk] at hr
    have H2 : Hid (∀ w1 w2 x', Bel W w1 → Bel w1 w2 → Pf w1.heap.size w2 n sr x' → Calls Tryz.prog 74 #[.agg (pc n sr x'), .agg (qc m a c)] w2 fun e w' => ∃ x2 aA cA, e = .returned (.tuple #[.agg (pc n r1 x2), .slice aA r2.length cA]) ∧ Pg W.heap.size w' n r1 x2 ∧ Mo W.heap.size w' (.slice aA r2.length cA) r2 ∧ Bel w1 w') := hide (fun w1 w2 x' hb hb2 hp => by
      rw [hr1, hr2, hr]
      exact (tlay_any hp hb2.size hro hn hT hG hm hk (hs.bel (hb.trans hb2)) hc hrt.1).mono (fun _ _ ⟨x2, aA, cA, he, hg, hmo, hb'⟩ => ⟨x2, aA, cA, he, hg.lowG hb.size, hmo.low (hb.trans hb2).size, hb2.trans hb'⟩))
    have k3 : (m.kind == 3) = true := by simp [hk]
    clear h hok hm hto hn hT hG hs hc htT hrt hro hr hsr hr1 hr2 hk
    skip
    go_enter Tryz.func44, Tryz.ntmps44
    go_wp2_with (first
      | go_skip
      | (refine bx_boxH 56 (.tmp 0) (by exact rfl) (by exact rfl) (pc n s x) (by exact rfl) ?_; intro b w0 hr0 hs0 hb0; have HR0 := hide hr0; have HB0 := hide (And.intro hb0 hs0); clear hr0 hs0 hb0)
      | (refine bx_boxH 27 (.tmp 1) (by exact rfl) (by exact rfl) (qc m a c) (by exact rfl) ?_; intro b3 w1 hr1 hs1 hb1; have HM0 := hide hr1; have HB1 := hide hb1; clear hr1 hs1 hb1)
      | (refine bx_new rfl 56 rfl _ Tryz.zero32 ?_; intro b2 w2 hr2 hs2 hb2; have HZ := hide (Lz.mk0 (unhide HB0).1 (unhide HB0).2 (unhide HR0) (unhide HB1) (unhide HM0) hb2 hs2 hr2); clear hr2 hs2 hb2 HR0 HB0 HM0 HB1)
      | (go_at_call 46; refine ((unhide H1) _ (unhide HZ).bel).mono ?_; rintro e w3 ⟨rfl, hb3⟩; replace HZ := hide ((unhide HZ).next hb3); clear hb3 H1)
      | (go_at_call 20; refine ((unhide H3) _ (unhide HZ).bel).mono ?_; rintro e w4 ⟨rfl, hb4⟩; replace HZ := hide ((unhide HZ).next hb4); clear hb4 H3; have m2 := (Bq.of (unhide HZ).rm).c2; have m0 := (Bq.of (unhide HZ).rm).c0; have y0 := (Bx.of (unhide HZ).row).c0)
      | (refine bx_ldH 56 (.tmp 2) (by exact rfl) b (by exact rfl) (by exact rfl) _ _ (unhide HZ).row Tryz.underlying56 (Tryz.size32 _ _ _) ?_)
      | (refine bx_ldH 27 (.tmp 3) (by exact rfl) b3 (by exact rfl) (by exact rfl) _ _ (unhide HZ).rm Tryz.underlying27 (Tryz.sizeq _ _ _) ?_))
    clear m2 y0 m0
    have hZ := (unhide HZ).next (Bel.refl w4).drew
    refine wp_region_held_drew (S := fun w => w.heap[b3]? = some (.cells (qc m a c) 27)) Tryz.follows hZ.rm (fun hS => ?_)
    clear HZ
    generalize w4.drew = wd at *
    refine any_ldq (i := 4) (b := b3) rfl (by kernel_rfl) (by kernel_rfl) (by kernel_rfl) (fun _ _ _ h => h) rfl hS rfl rfl (fun w hw => hw) ?_
    refine any_take (i := 1) (v := .pointer (some ⟨b3, 3, none⟩)) rfl (by kernel_rfl) (by kernel_rfl) (by kernel_rfl) (fun _ _ _ h => h) rfl hS (fun w hw => by go_simp) ?_
    refine any_take (i := 2) (v := .int .u64 m.term) rfl (by kernel_rfl) (by kernel_rfl) (by kernel_rfl) (fun _ _ _ h => h) rfl hS (fun w hw => by have := (Bq.of hw).c3; go_simp) ?_
    refine any_do (i := 0) (v := .agg (pc n s x)) (w' := wd) (by kernel_rfl) rfl rfl (ldp_run (.tmp 2) (by exact rfl) (by go_simp) hZ.row) ⟨hS, ?_⟩
    refine any_call (i := 3) (by kernel_rfl) rfl rfl (by go_simp) ((unhide HRa) wd hZ.bel) ?_
    rintro e w5 ⟨x5, rfl, hp5, hb5⟩
    have hZ5 := hZ.next hb5
    refine ⟨_, rfl, hZ5.rm, ?_⟩
    refine any_call (i := 5) (by kernel_rfl) rfl rfl (by go_simp) ((unhide H2) wd w5 x5 hZ.bel hb5 hp5) ?_
    rintro e w6 ⟨x6, aA, cA, rfl, hp6, hm6, hb6⟩
    have hZ6 := hZ.next hb6
    have hS6 := hZ6.rm
    refine ⟨_, rfl, hS6, ?_⟩
    clear hZ5 hZ hb5 hb6 hp5 hS
    refine any_take (i := 6) (v := .tuple #[.agg (pc n r1 x6), .slice aA r2.length cA]) rfl (by kernel_rfl) (by kernel_rfl) (by kernel_rfl) (fun _ _ _ h => h) rfl hS6 (fun w hw => by go_simp) ?_
    refine any_take (i := 7) (v := .agg (pc n r1 x6)) rfl (by kernel_rfl) (by kernel_rfl) (by kernel_rfl) (fun _ _ _ h => h) rfl hS6 (fun w hw => by go_simp) ?_
    refine any_take (i := 8) (v := .slice aA r2.length cA) rfl (by kernel_rfl) (by kernel_rfl) (by kernel_rfl) (fun _ _ _ h => h) rfl hS6 (fun w hw => by go_simp) ?_
    have hcc := ch_row (c' := pc n r1 x6) hZ6.row
    have HL : Hid (Lz W (w6.setRow b (pc n r1 x6)) b b2 b3 n r1 x6 m a c ∧ Pg W.heap.size (w6.setRow b (pc n r1 x6)) n r1 x6 ∧ Mo W.heap.size (w6.setRow b (pc n r1 x6)) (.slice aA r2.length cA) r2) := hide ⟨hZ6.set hcc.1 hcc.2, hp6.box hZ6.row hcc.2, hm6.box hZ6.row hcc.2⟩
    refine any_skip (i := 9) (w' := w6.setRow b (pc n r1 x6)) (by kernel_rfl) rfl rfl (st_run (n := n) (s := r1) (z := x6) (.tmp 2) (.tmp 36) (by exact rfl) (by go_simp) (by go_simp) hZ6.row) ⟨(unhide HL).1.rm, ?_⟩
    clear hcc hZ6 hp6 hm6 hS6
    generalize w6.setRow b (pc n r1 x6) = w7 at *
    refine any_do (i := 10) (v := .slice aA r2.length cA) (w' := w7) (by kernel_rfl) rfl rfl (by go_simp) ⟨(unhide HL).1.rm, ?_⟩
    refine wpAnyH_done (by kernel_rfl) ?_ _
    simp [Act.put]
    go_wp2_with (first
      | go_skip
      | go_guarded
      | (refine bx_ldH 56 (.tmp 2) (by exact rfl) b (by exact rfl) (by exact rfl) (pc n r1 x6) _ (unhide HL).1.row Tryz.underlying56 (Tryz.size32 _ _ _) ?_)
      | (obtain ⟨s2, x2, n2, h2⟩ := (unhide HL).1.row2; refine bx_st rfl 56 (.tmp 4) _ rfl b2 (pc n r1 x6) _ rfl rfl h2 (Tryz.size32 _ _ _) rfl (pc_one _ _ _) ?_; intro w9 hr9 hc9; have HR9 := hide (And.intro hr9 (And.intro ((unhide HL).2.1.box h2 hc9) (And.intro ((unhide HL).2.2.box h2 hc9) (bel_off (unhide HL).1.bel hc9 (unhide HL).1.ge2)))); clear hr9 hc9 h2))
    exact bodyPost_ret (res3 (p := 4) (q := 5) (r := 6) rfl Tryz.underlying56 (Tryz.size32 _ _ _) (unhide HR9).1 _ _ _ rfl rfl rfl) rfl ⟨_, _, _, rfl, (unhide HR9).2.1, (unhide HR9).2.2.1, (unhide HR9).2.2.2⟩
  · rw [if_neg (by omega)] at hr
    have H2 : Hid (∀ w1 w2 x', Bel W w1 → Bel w1 w2 → Pf w1.heap.size w2 n sr x' → Calls Tryz.prog 76 #[.agg (pc n sr x'), .agg (qc m a c)] w2 fun e w' => ∃ x2 aA cA, e = .returned (.tuple #[.agg (pc n r1 x2), .slice aA r2.length cA]) ∧ Pg W.heap.size w' n r1 x2 ∧ Mo W.heap.size w' (.slice aA r2.length cA) r2 ∧ Bel w1 w') := hide (fun w1 w2 x' hb hb2 hp => by
      rw [hr1, hr2, hr]
      exact (theard_any hb2 hp hro hn hG hm).mono (fun _ _ ⟨x2, aA, cA, he, hg, hmo, hb'⟩ => ⟨x2, aA, cA, he, hg.lowG hb.size, hmo.low hb.size, hb'⟩))
    have k3 : (m.kind == 3) = false := by simp [hk]
    have k4 : (m.kind == 4) = true := by simp [hk]
    clear h hok hm hto hn hT hG hs hc htT hrt hro hr hsr hr1 hr2 hk
    skip
    go_enter Tryz.func44, Tryz.ntmps44
    go_wp2_with (first
      | go_skip
      | (refine bx_boxH 56 (.tmp 0) (by exact rfl) (by exact rfl) (pc n s x) (by exact rfl) ?_; intro b w0 hr0 hs0 hb0; have HR0 := hide hr0; have HB0 := hide (And.intro hb0 hs0); clear hr0 hs0 hb0)
      | (refine bx_boxH 27 (.tmp 1) (by exact rfl) (by exact rfl) (qc m a c) (by exact rfl) ?_; intro b3 w1 hr1 hs1 hb1; have HM0 := hide hr1; have HB1 := hide hb1; clear hr1 hs1 hb1)
      | (refine bx_new rfl 56 rfl _ Tryz.zero32 ?_; intro b2 w2 hr2 hs2 hb2; have HZ := hide (Lz.mk0 (unhide HB0).1 (unhide HB0).2 (unhide HR0) (unhide HB1) (unhide HM0) hb2 hs2 hr2); clear hr2 hs2 hb2 HR0 HB0 HM0 HB1)
      | (go_at_call 46; refine ((unhide H1) _ (unhide HZ).bel).mono ?_; rintro e w3 ⟨rfl, hb3⟩; replace HZ := hide ((unhide HZ).next hb3); clear hb3 H1)
      | (go_at_call 20; refine ((unhide H3) _ (unhide HZ).bel).mono ?_; rintro e w4 ⟨rfl, hb4⟩; replace HZ := hide ((unhide HZ).next hb4); clear hb4 H3; have m2 := (Bq.of (unhide HZ).rm).c2; have m0 := (Bq.of (unhide HZ).rm).c0; have y0 := (Bx.of (unhide HZ).row).c0)
      | (refine bx_ldH 56 (.tmp 2) (by exact rfl) b (by exact rfl) (by exact rfl) _ _ (unhide HZ).row Tryz.underlying56 (Tryz.size32 _ _ _) ?_)
      | (refine bx_ldH 27 (.tmp 3) (by exact rfl) b3 (by exact rfl) (by exact rfl) _ _ (unhide HZ).rm Tryz.underlying27 (Tryz.sizeq _ _ _) ?_))
    clear m2 y0 m0
    have hZ := (unhide HZ).next (Bel.refl w4).drew
    refine wp_region_held_drew (S := fun w => w.heap[b3]? = some (.cells (qc m a c) 27)) Tryz.follows hZ.rm (fun hS => ?_)
    clear HZ
    generalize w4.drew = wd at *
    refine any_ldq (i := 4) (b := b3) rfl (by kernel_rfl) (by kernel_rfl) (by kernel_rfl) (fun _ _ _ h => h) rfl hS rfl rfl (fun w hw => hw) ?_
    refine any_take (i := 1) (v := .pointer (some ⟨b3, 3, none⟩)) rfl (by kernel_rfl) (by kernel_rfl) (by kernel_rfl) (fun _ _ _ h => h) rfl hS (fun w hw => by go_simp) ?_
    refine any_take (i := 2) (v := .int .u64 m.term) rfl (by kernel_rfl) (by kernel_rfl) (by kernel_rfl) (fun _ _ _ h => h) rfl hS (fun w hw => by have := (Bq.of hw).c3; go_simp) ?_
    refine any_do (i := 0) (v := .agg (pc n s x)) (w' := wd) (by kernel_rfl) rfl rfl (ldp_run (.tmp 2) (by exact rfl) (by go_simp) hZ.row) ⟨hS, ?_⟩
    refine any_call (i := 3) (by kernel_rfl) rfl rfl (by go_simp) ((unhide HRa) wd hZ.bel) ?_
    rintro e w5 ⟨x5, rfl, hp5, hb5⟩
    have hZ5 := hZ.next hb5
    refine ⟨_, rfl, hZ5.rm, ?_⟩
    refine any_call (i := 5) (by kernel_rfl) rfl rfl (by go_simp) ((unhide H2) wd w5 x5 hZ.bel hb5 hp5) ?_
    rintro e w6 ⟨x6, aA, cA, rfl, hp6, hm6, hb6⟩
    have hZ6 := hZ.next hb6
    have hS6 := hZ6.rm
    refine ⟨_, rfl, hS6, ?_⟩
    clear hZ5 hZ hb5 hb6 hp5 hS
    refine any_take (i := 6) (v := .tuple #[.agg (pc n r1 x6), .slice aA r2.length cA]) rfl (by kernel_rfl) (by kernel_rfl) (by kernel_rfl) (fun _ _ _ h => h) rfl hS6 (fun w hw => by go_simp) ?_
    refine any_take (i := 7) (v := .agg (pc n r1 x6)) rfl (by kernel_rfl) (by kernel_rfl) (by kernel_rfl) (fun _ _ _ h => h) rfl hS6 (fun w hw => by go_simp) ?_
    refine any_take (i := 8) (v := .slice aA r2.length cA) rfl (by kernel_rfl) (by kernel_rfl) (by kernel_rfl) (fun _ _ _ h => h) rfl hS6 (fun w hw => by go_simp) ?_
    have hcc := ch_row (c' := pc n r1 x6) hZ6.row
    have HL : Hid (Lz W (w6.setRow b (pc n r1 x6)) b b2 b3 n r1 x6 m a c ∧ Pg W.heap.size (w6.setRow b (pc n r1 x6)) n r1 x6 ∧ Mo W.heap.size (w6.setRow b (pc n r1 x6)) (.slice aA r2.length cA) r2) := hide ⟨hZ6.set hcc.1 hcc.2, hp6.box hZ6.row hcc.2, hm6.box hZ6.row hcc.2⟩
    refine any_skip (i := 9) (w' := w6.setRow b (pc n r1 x6)) (by kernel_rfl) rfl rfl (st_run (n := n) (s := r1) (z := x6) (.tmp 2) (.tmp 47) (by exact rfl) (by go_simp) (by go_simp) hZ6.row) ⟨(unhide HL).1.rm, ?_⟩
    clear hcc hZ6 hp6 hm6 hS6
    generalize w6.setRow b (pc n r1 x6) = w7 at *
    refine any_do (i := 10) (v := .slice aA r2.length cA) (w' := w7) (by kernel_rfl) rfl rfl (by go_simp) ⟨(unhide HL).1.rm, ?_⟩
    refine wpAnyH_done (by kernel_rfl) ?_ _
    simp [Act.put]
    go_wp2_with (first
      | go_skip
      | go_guarded
      | (refine bx_ldH 56 (.tmp 2) (by exact rfl) b (by exact rfl) (by exact rfl) (pc n r1 x6) _ (unhide HL).1.row Tryz.underlying56 (Tryz.size32 _ _ _) ?_)
      | (obtain ⟨s2, x2, n2, h2⟩ := (unhide HL).1.row2; refine bx_st rfl 56 (.tmp 4) _ rfl b2 (pc n r1 x6) _ rfl rfl h2 (Tryz.size32 _ _ _) rfl (pc_one _ _ _) ?_; intro w9 hr9 hc9; have HR9 := hide (And.intro hr9 (And.intro ((unhide HL).2.1.box h2 hc9) (And.intro ((unhide HL).2.2.box h2 hc9) (bel_off (unhide HL).1.bel hc9 (unhide HL).1.ge2)))); clear hr9 hc9 h2))
    exact bodyPost_ret (res3 (p := 4) (q := 5) (r := 6) rfl Tryz.underlying56 (Tryz.size32 _ _ _) (unhide HR9).1 _ _ _ rfl rfl rfl) rfl ⟨_, _, _, rfl, (unhide HR9).2.1, (unhide HR9).2.2.1, (unhide HR9).2.2.2⟩
end
end Go.Proofs.YthipgcojbhcdgaaGreat
