/- A message of entries is taken. -/
import Derived.Test.YthipgcojbhcdgaaGreatLly
import Derived.Test.YthipgcojbhcdgaaGreatLqk
namespace Go.Proofs.YthipgcojbhcdgaaGreat
open Go.RowKit Go.Maps Go.Sort
section
variable {W : World} {n T G base : Nat} {s : PP} {x : Px} {m : QM} {a : Option Addr} {c : Nat}
set_option maxRecDepth 100000 in
set_option maxHeartbeats 8000000 in
theorem tlay_any (h : Pf base W n s x) (hB : base ≤ W.heap.size) (hok : Ok n T G s) (hn : n ≤ 64) (hT : T ≤ 1000000) (hG : G ≤ 900000) (hm : QOk n T G m) (hk3 : m.kind = 3) (hs : Sl E69 W a m.ents) (hc : m.ents.length ≤ c) (htm : m.term ≤ s.term) : Calls Tryz.prog 74 #[.agg (pc n s x), .agg (qc m a c)] W fun e w' => ∃ x' aA cA, e = .returned (.tuple #[.agg (pc n (s.tlay m).1 x'), .slice aA (s.tlay m).2.length cA]) ∧ Pg base w' n (s.tlay m).1 x' ∧ Mo W.heap.size w' (.slice aA (s.tlay m).2.length cA) (s.tlay m).2 ∧ Bel W w' := by
  have hgl := hok.glen
  have HP := hide h.pg
  obtain ⟨r, hr⟩ : ∃ r, r = s.tlay m := ⟨_, rfl⟩
  rw [← hr]
  unfold PP.tlay at hr
  by_cases h1 : m.term < s.term
  · rw [if_pos h1] at hr
    have HLa : Hid (∀ w1, Bel W w1 → Calls Tryz.prog 48 #[.agg (pc n s x)] w1 fun e w' => ∃ t, e = .returned (.tuple #[.int .u64 (s.log.length : Int), .int .u64 t]) ∧ Bel w1 w') := hide (fun w1 hb => (last_any (h.pw.l.bel hb) (by omega)).mono (fun _ _ ⟨he, hb'⟩ => ⟨_, he, hb'⟩))
    obtain ⟨k, hk⟩ : ∃ k, k = s.log.length := ⟨_, rfl⟩
    rw [← hk] at hr HLa
    subst hr
    clear h hB hok hn hT hG hm hk3 hs hc htm hgl hk
    go_enter Tryz.func74, Tryz.ntmps74
    go_wp2_with (first
      | go_skip
      | go_guarded
      | (refine bx_boxH 56 (.tmp 0) (by exact rfl) (by exact rfl) (pc n s x) (by exact rfl) ?_; intro b w0 hr0 hs0 hb0; have HR0 := hide hr0; have HB0 := hide (And.intro hb0 hs0); clear hr0 hs0 hb0)
      | (refine bx_boxH 27 (.tmp 1) (by exact rfl) (by exact rfl) (qc m a c) (by exact rfl) ?_; intro b3 w1 hr1 hs1 hb1; have HM0 := hide hr1; have HB1 := hide hb1; clear hr1 hs1 hb1)
      | (refine bx_new rfl 56 rfl _ Tryz.zero32 ?_; intro b2 w2 hr2 hs2 hb2; have HZ := hide (Lz.mk0 (unhide HB0).1 (unhide HB0).2 (unhide HR0) (unhide HB1) (unhide HM0) hb2 hs2 hr2); have y3 := (Bq.of (unhide HZ).rm).c3; have y2 := (Bx.of (unhide HZ).row).c2; have y4 := (Bx.of (unhide HZ).row).c4; have y1 := (Bq.of (unhide HZ).rm).c1; clear hr2 hs2 hb2 HR0 HB0 HM0 HB1)
      | (refine bx_ldH 56 (.tmp 2) (by exact rfl) b (by exact rfl) (by exact rfl) (pc n s x) _ (unhide HZ).row Tryz.underlying56 (Tryz.size32 _ _ _) ?_)
      | (go_at_call 48; refine ((unhide HLa) _ (unhide HZ).bel).mono ?_; rintro e w6 ⟨t6, rfl, hb6⟩; replace HZ := hide ((unhide HZ).next hb6); clear hb6 HLa))
    have HPG := hide ((unhide HP).bel (unhide HZ).bel)
    have hZd := (unhide HZ).next (Bel.refl w6).drew
    have hPd := (unhide HPG).bel (Bel.refl w6).drew
    refine wp_region_held_drew (S := fun w => Lz W w b b2 b3 n s x m a c) Tryz.follows hZd (fun hS => ?_)
    clear hZd
    generalize w6.drew = wd at *
    refine any_ld (i := 0) (b := b) rfl (by kernel_rfl) (by kernel_rfl) (by kernel_rfl) (fun _ _ _ h => h) rfl hS rfl rfl (fun w hw => hw.row) ?_
    refine any_ld (i := 1) (b := b) rfl (by kernel_rfl) (by kernel_rfl) (by kernel_rfl) (fun _ _ _ h => h) rfl hS rfl rfl (fun w hw => hw.row) ?_
    refine any_take (i := 2) (v := .pointer (some ⟨b3, 1, none⟩)) rfl (by kernel_rfl) (by kernel_rfl) (by kernel_rfl) (fun _ _ _ h => h) rfl hS (fun w hw => by go_simp) ?_
    refine any_take (i := 3) (v := .int .i64 m.frm) rfl (by kernel_rfl) (by kernel_rfl) (by kernel_rfl) (fun _ _ _ h => h) rfl hS (fun w hw => by have := (Bq.of hw.rm).c1; go_simp) ?_
    refine any_take (i := 4) (v := .int .u64 (k : Int)) rfl (by kernel_rfl) (by kernel_rfl) (by kernel_rfl) (fun _ _ _ h => h) rfl hS (fun w hw => by go_simp) ?_
    refine any_call (i := 5) (by kernel_rfl) rfl rfl (by go_simp) (hrd_st m.frm false k (n := n) (s := s) (x := x) hS.bel) ?_
    rintro e w1 ⟨v, rfl, aA, cA, rfl, hm, hb⟩
    refine ⟨_, rfl, hS.next hb, ?_⟩
    have hS1 := hS.next hb
    have HQ := hide (And.intro (hS1.out (hPd.bel hb)) (hS1.outM hm))
    obtain ⟨s2, x2, n2, h2⟩ := hS1.row2
    refine any_skip (i := 6) (w' := w1.setRow b2 (pc n s x)) (by kernel_rfl) rfl rfl (st_run (n := n) (s := s) (z := x) (.tmp 4) (.tmp 18) (by exact rfl) (by go_simp) (by go_simp) h2) ⟨hS1.st, ?_⟩
    have hS2 := hS1.st
    clear hm hb hS hS1 h2
    generalize w1.setRow b2 (pc n s x) = we at *
    refine any_do (i := 7) (v := .slice aA 1 cA) (w' := we) (by kernel_rfl) rfl rfl (by go_simp) ⟨hS2, ?_⟩
    refine wpAnyH_done (by kernel_rfl) ?_ _
    clear hS2
    simp [Act.put]
    go_wp2_with fail
    exact bodyPost_ret (res2 (p := 4) (q := 5) rfl Tryz.underlying56 (Tryz.size32 _ _ _) (unhide HQ).1.1 _ _ rfl rfl) rfl ⟨_, _, _, rfl, (unhide HQ).1.2.1, (unhide HQ).2, (unhide HQ).1.2.2⟩
  · rw [if_neg h1] at hr
    by_cases h2 : s.role = 2
    · rw [if_pos h2] at hr
      have e2 : (s.role == 2) = true := by simp [h2]
      subst hr
      clear h hB hok hn hT hG hm hk3 hs hc htm hgl h2
      go_enter Tryz.func74, Tryz.ntmps74
      go_wp2_with (first
      | go_skip
      | go_guarded
      | (refine bx_boxH 56 (.tmp 0) (by exact rfl) (by exact rfl) (pc n s x) (by exact rfl) ?_; intro b w0 hr0 hs0 hb0; have HR0 := hide hr0; have HB0 := hide (And.intro hb0 hs0); clear hr0 hs0 hb0)
      | (refine bx_boxH 27 (.tmp 1) (by exact rfl) (by exact rfl) (qc m a c) (by exact rfl) ?_; intro b3 w1 hr1 hs1 hb1; have HM0 := hide hr1; have HB1 := hide hb1; clear hr1 hs1 hb1)
      | (refine bx_new rfl 56 rfl _ Tryz.zero32 ?_; intro b2 w2 hr2 hs2 hb2; have HZ := hide (Lz.mk0 (unhide HB0).1 (unhide HB0).2 (unhide HR0) (unhide HB1) (unhide HM0) hb2 hs2 hr2); have y3 := (Bq.of (unhide HZ).rm).c3; have y2 := (Bx.of (unhide HZ).row).c2; have y4 := (Bx.of (unhide HZ).row).c4; have y1 := (Bq.of (unhide HZ).rm).c1; clear hr2 hs2 hb2 HR0 HB0 HM0 HB1)
        | (refine bx_ldH 56 (.tmp 2) (by exact rfl) b (by exact rfl) (by exact rfl) (pc n s x) _ (unhide HZ).row Tryz.underlying56 (Tryz.size32 _ _ _) ?_)
        | (have HPG := hide ((unhide HP).bel (unhide HZ).bel); obtain ⟨s2, x2, n2, h2⟩ := (unhide HZ).row2; refine bx_st rfl 56 (.tmp 4) _ rfl b2 (pc n s x) _ rfl rfl h2 (Tryz.size32 _ _ _) rfl (pc_one _ _ _) ?_; intro w9 hr9 hc9; have HR9 := hide (And.intro hr9 (And.intro ((unhide HPG).box h2 hc9) (bel_off (unhide HZ).bel hc9 (unhide HZ).ge2))); clear hr9 hc9 h2))
      exact bodyPost_ret (res2 (p := 4) (q := 5) rfl Tryz.underlying56 (Tryz.size32 _ _ _) (unhide HR9).1 _ _ rfl rfl) rfl ⟨_, _, _, rfl, (unhide HR9).2.1, Mo.nil _ _, (unhide HR9).2.2⟩
    · rw [if_neg h2] at hr
      have e2 : (s.role == 2) = false := by simp [h2]
      have htT := hm.term
      have hok3 : Ok n T G { s.down m.term with lead := m.frm, idle := 0 } := by
        have hdk := down_nxt (V := fun _ _ => 0) hok (t := m.term) (Or.inl htm)
        have hf := hm.f
        exact { hdk.ok with lead := ⟨by show 0 ≤ m.frm; omega, hf.2⟩, idle := ⟨by show (0 : Int) ≤ 0; omega, by show (0 : Int) ≤ 1000; omega⟩, role := Or.inl ⟨rfl, rfl, rfl⟩ }
      have HD : Hid (∀ W', Bel W W' → Calls Tryz.prog 109 #[.agg (pc n s x), .int .u64 m.term] W' fun e w' => ∃ x', e = .returned (.tuple #[.agg (pc n (s.down m.term) x'), .int .i64 0]) ∧ Pf W.heap.size w' n (s.down m.term) x' ∧ Bel W' w') := hide (fun W' hb => (down_any (h.pg.pq.bel hb) hok hn hT (by omega) m.term (by omega)).mono (fun _ _ ⟨x', he, hf, hb'⟩ => ⟨x', he, hf.lower hb.size, hb'⟩))
      obtain ⟨sd, hsd⟩ : ∃ sd, sd = s.down m.term := ⟨_, rfl⟩
      rw [← hsd] at HD hok3 hr
      obtain ⟨s3, hs3⟩ : ∃ s3 : PP, s3 = { sd with lead := m.frm, idle := 0 } := ⟨_, rfl⟩
      rw [← hs3] at hr hok3
      have HS3 := hide hs3
      have HLy : Hid (∀ w1 x1, Bel W w1 → Pf W.heap.size w1 n s3 x1 → Calls Tryz.prog 110 #[.agg (pc n s3 x1), .agg (qc m a c)] w1 fun e w' => ∃ x' aA cA, e = .returned (.tuple #[.agg (pc n r.1 x'), .slice aA r.2.length cA]) ∧ Pg W.heap.size w' n r.1 x' ∧ Mo W.heap.size w' (.slice aA r.2.length cA) r.2 ∧ Bel w1 w') := hide (fun w1 x1 hb hp => by
        rw [hr]
        exact (lay_any hp hb.size hok3 hn hG hm hk3 (hs.bel hb) hc).mono (fun _ _ ⟨x', aA, cA, he, hg, hmo, hb'⟩ => ⟨x', aA, cA, he, hg, hmo.low hb.size, hb'⟩))
      have HLo := hide hB
      obtain ⟨r1, hr1⟩ : ∃ r1, r1 = r.1 := ⟨_, rfl⟩
      obtain ⟨r2, hr2⟩ : ∃ r2, r2 = r.2 := ⟨_, rfl⟩
      rw [← hr1, ← hr2] at HLy ⊢
      clear h hB hok hn hT hG hm hk3 hs hc htm hgl h2 htT hok3 hsd hs3 hr hr1 hr2
      go_enter Tryz.func74, Tryz.ntmps74
      go_wp2_with (first
      | go_skip
      | go_guarded
      | (refine bx_boxH 56 (.tmp 0) (by exact rfl) (by exact rfl) (pc n s x) (by exact rfl) ?_; intro b w0 hr0 hs0 hb0; have HR0 := hide hr0; have HB0 := hide (And.intro hb0 hs0); clear hr0 hs0 hb0)
      | (refine bx_boxH 27 (.tmp 1) (by exact rfl) (by exact rfl) (qc m a c) (by exact rfl) ?_; intro b3 w1 hr1 hs1 hb1; have HM0 := hide hr1; have HB1 := hide hb1; clear hr1 hs1 hb1)
      | (refine bx_new rfl 56 rfl _ Tryz.zero32 ?_; intro b2 w2 hr2 hs2 hb2; have HZ := hide (Lz.mk0 (unhide HB0).1 (unhide HB0).2 (unhide HR0) (unhide HB1) (unhide HM0) hb2 hs2 hr2); have y3 := (Bq.of (unhide HZ).rm).c3; have y2 := (Bx.of (unhide HZ).row).c2; have y4 := (Bx.of (unhide HZ).row).c4; have y1 := (Bq.of (unhide HZ).rm).c1; clear hr2 hs2 hb2 HR0 HB0 HM0 HB1)
        | (refine bx_ldH 56 (.tmp 2) (by exact rfl) b (by exact rfl) (by exact rfl) (pc n s x) _ (unhide HZ).row Tryz.underlying56 (Tryz.size32 _ _ _) ?_)
        | (go_at_call 109; refine ((unhide HD) _ (unhide HZ).bel).mono ?_; rintro e w6 ⟨x6, rfl, hp6, hb6⟩; have HP6 := hide hp6; replace HZ := hide ((unhide HZ).next hb6); clear hb6 hp6 HD)
        | (refine bx_st rfl 56 (.tmp 2) _ rfl b (pc n sd x6) _ rfl rfl (unhide HZ).row (Tryz.size32 _ _ _) rfl (pc_one _ _ _) ?_; intro w7 hr7 hc7; have HP7 : Hid (Pf W.heap.size w7 n sd x6) := hide ((unhide HP6).box (unhide HZ).row hc7); have HZ7 := hide ((unhide HZ).set hr7 hc7); have y1 := (Bq.of (unhide HZ7).rm).c1; clear hr7 hc7 HZ HP6)
        | (refine fl_lead rfl _ _ rfl b _ rfl rfl (unhide HZ7).row ?_; intro w8 hr8 hc8; have HP8 := hide ((unhide HP7).box (unhide HZ7).row hc8); have HZ8 := hide ((unhide HZ7).set hr8 hc8); clear hr8 hc8 HZ7 HP7)
        | (refine fl_idle rfl _ _ rfl b _ rfl rfl (unhide HZ8).row ?_; intro w9 hr9 hc9; have HP9 : Hid (Pf W.heap.size w9 n s3 x6) := hide (by rw [unhide HS3]; exact (Pf.same ((unhide HP8).box (unhide HZ8).row hc9) rfl rfl rfl)); have HZ9 : Hid (Lz W w9 b b2 b3 n s3 x6 m a c) := hide (by rw [unhide HS3]; exact (unhide HZ8).set hr9 hc9); clear hr9 hc9 HZ8 HP8)
        | (refine bx_ldH 56 (.tmp 2) (by exact rfl) b (by exact rfl) (by exact rfl) (pc n s3 x6) _ (unhide HZ9).row Tryz.underlying56 (Tryz.size32 _ _ _) ?_)
        | (refine bx_ldH 27 (.tmp 3) (by exact rfl) b3 (by exact rfl) (by exact rfl) (qc m a c) _ (unhide HZ9).rm Tryz.underlying27 (Tryz.sizeq _ _ _) ?_)
        | (go_at_call 110; refine ((unhide HLy) _ _ (unhide HZ9).bel (unhide HP9)).mono ?_; rintro e wa ⟨xa, aA, cA, rfl, hpa, hma, hba⟩; have HPA := hide (And.intro hpa hma); replace HZ9 := hide ((unhide HZ9).next hba); clear hpa hma hba HLy)
        | (obtain ⟨s2, x2, n2, h2⟩ := (unhide HZ9).row2; refine bx_st rfl 56 (.tmp 4) _ rfl b2 (pc n r1 xa) _ rfl rfl h2 (Tryz.size32 _ _ _) rfl (pc_one _ _ _) ?_; intro wb hrb hcb; have HRB := hide (And.intro hrb (And.intro ((unhide HPA).1.box h2 hcb) (And.intro ((unhide HPA).2.box h2 hcb) (bel_off (unhide HZ9).bel hcb (unhide HZ9).ge2)))); clear hrb hcb h2))
      exact bodyPost_ret (res2 (p := 4) (q := 5) rfl Tryz.underlying56 (Tryz.size32 _ _ _) (unhide HRB).1 _ _ rfl rfl) rfl ⟨_, _, _, rfl, (unhide HRB).2.1.lowG (unhide HLo), (unhide HRB).2.2.1, (unhide HRB).2.2.2⟩
end
end Go.Proofs.YthipgcojbhcdgaaGreat
