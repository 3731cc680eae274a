/- An answer to entries is taken. -/
import Derived.Test.YthipgcojbhcdgaaGreatNfa
namespace Go.Proofs.YthipgcojbhcdgaaGreat
open Go.RowKit Go.Maps Go.Sort
theorem fol_ld_run {o : Oper} {a : Act} {w : World} {n base : Nat} {s : PP} {x : Px} {f : Int × Int × Int} (y : Operand) (ho : o.op = .load 133 y) (g i : Nat) (hx : a.eval y = .pointer (some ⟨g, i * 3, none⟩)) (hp : Pg base w n s x) (hg : x.aF = some ⟨g, 0, none⟩) (hi : i < s.fol.length) (e : s.fol[i] = f) : (execOp a.eval o).run Tryz.prog w = .ok (.value (.agg (encF f).toArray)) w := by
  have hf := hp.f
  rw [hg] at hf
  exact el_ld_run (E := E65) y ho g i hx hf hi Tryz.underlying133 (encF f).toArray (by rw [e]; rfl)
theorem Lz.back {W0 W w : World} {b b2 b3 n : Nat} {s : PP} {x : Px} {m : QM} {a : Option Addr} {c : Nat} (h : Lz W w b b2 b3 n s x m a c) (hW : Bel W0 W) : Lz W0 w b b2 b3 n s x m a c := ⟨h.row, h.rm, h.row2, hW.trans h.bel, Nat.le_trans hW.size h.ge, Nat.le_trans hW.size h.ge2, h.ne⟩
section
variable {W0 W : World} {n T G : Nat} {s : PP} {x : Px} {m : QM} {a : Option Addr} {c : Nat}
set_option maxRecDepth 100000 in
set_option maxHeartbeats 8000000 in
theorem theard_no (hW : Bel W0 W) (h : Pf W0.heap.size W n s x) (hF : ∀ w1, Bel W w1 → Calls Tryz.prog 111 #[.agg (pc n s x), .int .i64 m.frm] w1 fun e w' => ∃ v', e = .returned (.int .i64 v') ∧ Bel w1 w' ∧ (m.term = s.term → v' < 0)) : Calls Tryz.prog 76 #[.agg (pc n s x), .agg (qc m a c)] W fun e w' => ∃ x' aA cA, e = .returned (.tuple #[.agg (pc n s x'), .slice aA 0 cA]) ∧ Pg W0.heap.size w' n s x' ∧ Mo W0.heap.size w' (.slice aA 0 cA) [] ∧ Bel W0 w' := by
  have HP := hide h.pg
  have HW := hide hW
  have HF := hide hF
  clear h hW hF
  by_cases ht : m.term = s.term
  · have hne : (m.term != s.term) = false := by simp [ht]
    have HT := hide ht
    clear ht
    go_enter Tryz.func76, Tryz.ntmps76
    go_wp2_with (first
      | go_skip
      | go_guarded
      | (refine bx_boxH 56 (.tmp 0) (by exact rfl) (by exact rfl) (pc n s x) (by exact rfl) ?_; intro b w0 hr0 hs0 hb0; have HR0 := hide hr0; have HB0 := hide (And.intro hb0 hs0); clear hr0 hs0 hb0)
      | (refine bx_boxH 27 (.tmp 1) (by exact rfl) (by exact rfl) (qc m a c) (by exact rfl) ?_; intro b3 w1 hr1 hs1 hb1; have HM0 := hide hr1; have HB1 := hide hb1; clear hr1 hs1 hb1)
      | (refine bx_new rfl 56 rfl _ Tryz.zero32 ?_; intro b2 w2 hr2 hs2 hb2; have HZ := hide ((Lz.mk0 (unhide HB0).1 (unhide HB0).2 (unhide HR0) (unhide HB1) (unhide HM0) hb2 hs2 hr2).back (unhide HW)); have HWZ := hide (Lz.mk0 (unhide HB0).1 (unhide HB0).2 (unhide HR0) (unhide HB1) (unhide HM0) hb2 hs2 hr2).bel; have y1 := (Bq.of (unhide HZ).rm).c1; clear hr2 hs2 hb2 HR0 HB0 HM0 HB1)
      | (refine bx_ldH 56 (.tmp 2) (by exact rfl) b (by exact rfl) (by exact rfl) (pc n s x) _ (unhide HZ).row Tryz.underlying56 (Tryz.size32 _ _ _) ?_)
      | (go_at_call 111; refine ((unhide HF) _ (unhide HWZ)).mono ?_; rintro e w6 ⟨v6, rfl, hb6, hv6⟩; replace HZ := hide ((unhide HZ).next hb6); have HPG := hide (((unhide HP).bel (unhide HWZ)).bel hb6); have hv := hv6 (unhide HT); have y3 := (Bq.of (unhide HZ).rm).c3; have y2 := (Bx.of (unhide HZ).row).c2; clear hb6 hv6 HF)
      | (obtain ⟨s2, x2, n2, h2⟩ := (unhide HZ).row2; refine bx_st rfl 56 (.tmp 4) _ rfl b2 (pc n s x) _ rfl rfl h2 (Tryz.size32 _ _ _) rfl (pc_one _ _ _) ?_; intro w9 hr9 hc9; have HR9 := hide (And.intro hr9 (And.intro ((unhide HPG).box h2 hc9) (bel_off (unhide HZ).bel hc9 (unhide HZ).ge2))); clear hr9 hc9 h2))
    exact bodyPost_ret (res2 (p := 4) (q := 5) rfl Tryz.underlying56 (Tryz.size32 _ _ _) (unhide HR9).1 _ _ rfl rfl) rfl ⟨_, _, _, rfl, (unhide HR9).2.1, Mo.nil _ _, (unhide HR9).2.2⟩
  · have hne : (m.term != s.term) = true := by simp [ht]
    clear ht
    go_enter Tryz.func76, Tryz.ntmps76
    go_wp2_with (first
      | go_skip
      | go_guarded
      | (refine bx_boxH 56 (.tmp 0) (by exact rfl) (by exact rfl) (pc n s x) (by exact rfl) ?_; intro b w0 hr0 hs0 hb0; have HR0 := hide hr0; have HB0 := hide (And.intro hb0 hs0); clear hr0 hs0 hb0)
      | (refine bx_boxH 27 (.tmp 1) (by exact rfl) (by exact rfl) (qc m a c) (by exact rfl) ?_; intro b3 w1 hr1 hs1 hb1; have HM0 := hide hr1; have HB1 := hide hb1; clear hr1 hs1 hb1)
      | (refine bx_new rfl 56 rfl _ Tryz.zero32 ?_; intro b2 w2 hr2 hs2 hb2; have HZ := hide ((Lz.mk0 (unhide HB0).1 (unhide HB0).2 (unhide HR0) (unhide HB1) (unhide HM0) hb2 hs2 hr2).back (unhide HW)); have HWZ := hide (Lz.mk0 (unhide HB0).1 (unhide HB0).2 (unhide HR0) (unhide HB1) (unhide HM0) hb2 hs2 hr2).bel; have y1 := (Bq.of (unhide HZ).rm).c1; clear hr2 hs2 hb2 HR0 HB0 HM0 HB1)
      | (refine bx_ldH 56 (.tmp 2) (by exact rfl) b (by exact rfl) (by exact rfl) (pc n s x) _ (unhide HZ).row Tryz.underlying56 (Tryz.size32 _ _ _) ?_)
      | (go_at_call 111; refine ((unhide HF) _ (unhide HWZ)).mono ?_; rintro e w6 ⟨v6, rfl, hb6, hv6⟩; replace HZ := hide ((unhide HZ).next hb6); have HPG := hide (((unhide HP).bel (unhide HWZ)).bel hb6); have y3 := (Bq.of (unhide HZ).rm).c3; have y2 := (Bx.of (unhide HZ).row).c2; clear hb6 hv6 HF)
      | (obtain ⟨s2, x2, n2, h2⟩ := (unhide HZ).row2; refine bx_st rfl 56 (.tmp 4) _ rfl b2 (pc n s x) _ rfl rfl h2 (Tryz.size32 _ _ _) rfl (pc_one _ _ _) ?_; intro w9 hr9 hc9; have HR9 := hide (And.intro hr9 (And.intro ((unhide HPG).box h2 hc9) (bel_off (unhide HZ).bel hc9 (unhide HZ).ge2))); clear hr9 hc9 h2))
    exact bodyPost_ret (res2 (p := 4) (q := 5) rfl Tryz.underlying56 (Tryz.size32 _ _ _) (unhide HR9).1 _ _ rfl rfl) rfl ⟨_, _, _, rfl, (unhide HR9).2.1, Mo.nil _ _, (unhide HR9).2.2⟩
set_option maxRecDepth 100000 in
set_option maxHeartbeats 8000000 in
theorem theard_bad (hW : Bel W0 W) (h : Pf W0.heap.size W n s x) (hok : Ok n T G s) (hn : n ≤ 64) (hG : G ≤ 900000) (hr : s.role = 2) (hm : QOk n T G m) (ht : m.term = s.term) (ho : m.ok = false) {i : Nat} (hi : i < s.fol.length) (hq : s.fol.find? (fun g => g.1 == m.frm) = some s.fol[i]) : Calls Tryz.prog 76 #[.agg (pc n s x), .agg (qc m a c)] W fun e w' => ∃ x' aA cA, e = .returned (.tuple #[.agg (pc n (s.theard m).1 x'), .slice aA (s.theard m).2.length cA]) ∧ Pg W0.heap.size w' n (s.theard m).1 x' ∧ Mo W0.heap.size w' (.slice aA (s.theard m).2.length cA) (s.theard m).2 ∧ Bel W0 w' := by
  obtain ⟨r, hrr⟩ : ∃ r, r = s.theard m := ⟨_, rfl⟩
  rw [← hrr]
  unfold PP.theard at hrr
  rw [if_pos ht, hq] at hrr
  simp only [ho, Bool.false_eq_true, if_false] at hrr
  have hgl := hok.glen
  have hix := hm.index
  have hfo := fol_ok hok hr s.fol[i] (List.getElem_mem hi)
  obtain ⟨nx, hnx⟩ : ∃ nx, nx = max (s.fol[i].2.2 + 1) (min (s.fol[i].2.1 - 1) ((m.index : Int) + 1)) := ⟨_, rfl⟩
  rw [← hnx] at hrr
  have hbd : 1 ≤ nx ∧ nx ≤ (s.log.length : Int) + 1 ∧ s.fol[i].2.2 < nx := by omega
  have hs5 := setF_ok hok hr (s.fol[i].1, nx, s.fol[i].2.2) (by dsimp only; omega)
  have hse := setF_set (f := (s.fol[i].1, nx, s.fol[i].2.2)) (fol_nodup hok) hi rfl
  obtain ⟨g, hga⟩ : ∃ g, x.aF = some ⟨g, 0, none⟩ := by
    obtain ⟨a', c', g', e, h1, _⟩ := h.f.shape
    injection e with e1
    exact ⟨g', by rw [e1]; exact h1 (by omega)⟩
  have HGA := hide hga
  have HP := hide h.pg
  have HW := hide hW
  have HFo : Hid (∀ w1, Bel W w1 → Calls Tryz.prog 111 #[.agg (pc n s x), .int .i64 m.frm] w1 fun e w' => e = .returned (.int .i64 (i : Int)) ∧ Bel w1 w') := hide (fun w1 hb => folat_at (h.pw.f.bel hb) (fol_len hok hn) (fol_nodup hok) hi hq)
  have HLa : Hid (∀ w1, Bel W w1 → Calls Tryz.prog 48 #[.agg (pc n s x)] w1 fun e w' => ∃ t, e = .returned (.tuple #[.int .u64 (s.log.length : Int), .int .u64 t]) ∧ Bel w1 w') := hide (fun w1 hb => (last_any (h.pw.l.bel hb) (by have := hok.glen; omega)).mono (fun _ _ ⟨he, hb'⟩ => ⟨_, he, hb'⟩))
  have hir : (i : Int) < s.fol.length := by omega
  have hi0 : ¬ ((i : Int) < 0) := by omega
  obtain ⟨ff, hff⟩ : ∃ ff, ff = (s.fol[i].1, nx, s.fol[i].2.2) := ⟨_, rfl⟩
  rw [← hff] at hrr hs5 hse
  obtain ⟨s5, hs5e⟩ : ∃ s5, s5 = s.setF ff := ⟨_, rfl⟩
  rw [← hs5e] at hrr hs5 hse
  obtain ⟨mm, hmm⟩ : ∃ mm, mm = s5.msg ff := ⟨_, rfl⟩
  have HMK : Hid (3 ≤ mm.kind) := hide (by rw [hmm]; exact Int.le_refl _)
  rw [← hmm] at hrr
  have hl5 : s5.log = s.log := by rw [hse]
  have HMs : Hid (∀ w1, Pg W0.heap.size w1 n s5 x → Calls Tryz.prog 105 #[.agg (pc n s5 x), .agg (encF ff).toArray] w1 fun e w' => ∃ a' c', e = .returned (.agg (qc mm a' c')) ∧ E69.O w1.heap.size w' (.slice a' mm.ents.length c') mm.ents ∧ Bel w1 w') := hide (fun w1 hp => by
    rw [hmm]
    exact msg_any (Sl.of hp.l).1 (Sl.of hp.l).2.2 (by rw [hl5]; omega) ff (by rw [hff]; exact hbd.1) (by rw [hff, hl5]; exact hbd.2.1))
  have HIF : Hid (i < s5.fol.length) := hide (by rw [hse]; simpa using hi)
  have HFE : Hid (s5.fol[i]'(unhide HIF) = ff) := hide (by simp [hse])
  have HR := hide hrr
  have HSE : Hid (s5 = { s with fol := s.fol.set i ff }) := hide hse
  have HFF := hide hff
  have hw1 : IntKind.u64.wrap (s.fol[i].2.2 + 1) = s.fol[i].2.2 + 1 := wrapU (by omega) (by omega)
  have hw2 : IntKind.u64.wrap (s.fol[i].2.1 - 1) = s.fol[i].2.1 - 1 := wrapU (by omega) (by omega)
  have hw3 : IntKind.u64.wrap ((m.index : Int) + 1) = (m.index : Int) + 1 := wrapU (by omega) (by omega)
  have hmx : max (s.fol[i].2.2 + 1) (min (s.fol[i].2.1 - 1) ((m.index : Int) + 1)) = nx := hnx.symm
  have hne : (m.term != s.term) = false := by simp [ht]
  clear h hW hok hn hG hr hm ht hq hrr hgl hix hfo hbd hs5 hse hga hff hs5e hmm hl5 hnx
  obtain ⟨f1, hf1⟩ : ∃ f1, f1 = s.fol[i].1 := ⟨_, rfl⟩
  obtain ⟨f2, hf2⟩ : ∃ f2, f2 = s.fol[i].2.1 := ⟨_, rfl⟩
  obtain ⟨f3, hf3⟩ : ∃ f3, f3 = s.fol[i].2.2 := ⟨_, rfl⟩
  rw [← hf2] at hw2 hmx
  rw [← hf3] at hw1 hmx
  have HF123 := hide (And.intro hf1 (And.intro hf2 hf3))
  clear hf1 hf2 hf3
  have HI := hide hi

  go_enter Tryz.func76, Tryz.ntmps76
  go_wp2_with (first
      | go_skip
      | go_guarded
      | (refine bx_boxH 56 (.tmp 0) (by exact rfl) (by exact rfl) (pc n s x) (by exact rfl) ?_; intro b w0 hr0 hs0 hb0; have HR0 := hide hr0; have HB0 := hide (And.intro hb0 hs0); clear hr0 hs0 hb0)
      | (refine bx_boxH 27 (.tmp 1) (by exact rfl) (by exact rfl) (qc m a c) (by exact rfl) ?_; intro b3 w1 hr1 hs1 hb1; have HM0 := hide hr1; have HB1 := hide hb1; clear hr1 hs1 hb1)
      | (refine bx_new rfl 56 rfl _ Tryz.zero32 ?_; intro b2 w2 hr2 hs2 hb2; have HZ := hide ((Lz.mk0 (unhide HB0).1 (unhide HB0).2 (unhide HR0) (unhide HB1) (unhide HM0) hb2 hs2 hr2).back (unhide HW)); have HWZ := hide (Lz.mk0 (unhide HB0).1 (unhide HB0).2 (unhide HR0) (unhide HB1) (unhide HM0) hb2 hs2 hr2).bel; have y1 := (Bq.of (unhide HZ).rm).c1; clear hr2 hs2 hb2 HR0 HB0 HM0 HB1)
      | (refine bx_ldH 56 (.tmp 2) (by exact rfl) b (by exact rfl) (by exact rfl) (pc n s x) _ (unhide HZ).row Tryz.underlying56 (Tryz.size32 _ _ _) ?_)
      | (go_at_call 111; refine ((unhide HFo) _ (unhide HWZ)).mono ?_; rintro e w6 ⟨rfl, hb6⟩; replace HZ := hide ((unhide HZ).next hb6); replace HWZ := hide ((unhide HWZ).trans hb6); have y3 := (Bq.of (unhide HZ).rm).c3; have y2 := (Bx.of (unhide HZ).row).c2; clear hb6 HFo)
      | (go_at_call 48; refine ((unhide HLa) _ (unhide HWZ)).mono ?_; rintro e w7 ⟨t7, rfl, hb7⟩; replace HZ := hide ((unhide HZ).next hb7); replace HWZ := hide ((unhide HWZ).trans hb7); have y15 := (Bx.of (unhide HZ).row).c15; rw [unhide HGA] at y15; have y8 := (Bq.of (unhide HZ).rm).c8; rw [ho] at y8; clear hb7 HLa))
  have HPG := hide ((unhide HP).bel (unhide HWZ))
  have hf7 := (unhide HPG).f
  rw [unhide HGA] at hf7
  obtain ⟨r0, r1, r2⟩ := E65_cell hf7.row i (unhide HI)
  have z0 : w7.frozen? ⟨g, i * 3 + 1, none⟩ = false := World.ownsRow.frozenAt hf7 _
  rw [← (unhide HF123).2.1] at r1
  rw [← (unhide HF123).2.2] at r2
  rw [Nat.zero_add] at r1 r2
  have y4 := (Bq.of (unhide HZ).rm).c4
  clear hf7 r0 y2 y3 y8 y15
  go_region
  have hS8 : Hid (Lz W0 (w7.setCell ⟨g, i * 3 + 1, none⟩ (.int .u64 nx)) b b2 b3 n s5 x m a c ∧ Pg W0.heap.size (w7.setCell ⟨g, i * 3 + 1, none⟩ (.int .u64 nx)) n s5 x) := hide (by
    rw [unhide HSE, unhide HFF]
    have hf7 := (unhide HPG).f
    rw [unhide HGA] at hf7
    refine (unhide HZ).fol (unhide HPG) (unhide HGA) (by simp) ?_ (Ch.set (ad := ⟨g, i * 3 + 1, none⟩) (Ch.refl (fun k => k = g) w7) (Or.inl rfl) _)
    rw [unhide HGA]
    exact hf7.next1 (unhide HI) nx)
  have HL : Hid (Lz W0 (w7.setCell ⟨g, i * 3 + 1, none⟩ (.int .u64 nx)).drew b b2 b3 n s5 x m a c ∧ Pg W0.heap.size (w7.setCell ⟨g, i * 3 + 1, none⟩ (.int .u64 nx)).drew n s5 x) := hide ⟨(unhide hS8).1.next (Bel.refl _).drew, (unhide hS8).2.bel (Bel.refl _).drew⟩
  clear hS8 HZ HPG HWZ r1 r2 z0 y4 y1
  generalize (w7.setCell ⟨g, i * 3 + 1, none⟩ (.int .u64 nx)).drew = w8 at *
  go_wp2_with fail
  have hSd : Lz W0 w8.drew b b2 b3 n s5 x m a c ∧ Pg W0.heap.size w8.drew n s5 x := ⟨(unhide HL).1.next (Bel.refl w8).drew, (unhide HL).2.bel (Bel.refl w8).drew⟩
  refine wp_region_held_drew (S := fun w => Lz W0 w b b2 b3 n s5 x m a c ∧ Pg W0.heap.size w n s5 x) Tryz.follows hSd (fun hS => ?_)
  clear hSd
  generalize w8.drew = wd at *
  refine any_ld (i := 0) (b := b) rfl (by kernel_rfl) (by kernel_rfl) (by kernel_rfl) (fun _ _ _ h => h) rfl hS rfl rfl (fun w hw => hw.1.row) ?_
  refine any_ld (i := 1) (b := b) rfl (by kernel_rfl) (by kernel_rfl) (by kernel_rfl) (fun _ _ _ h => h) rfl hS rfl rfl (fun w hw => hw.1.row) ?_
  refine any_take (i := 2) (v := .pointer (some ⟨g, i * 3, none⟩)) rfl (by kernel_rfl) (by kernel_rfl) (by kernel_rfl) (fun _ _ _ h => h) rfl hS (fun w hw => by go_simp) ?_
  refine any_take (i := 3) (v := .pointer (some ⟨g, i * 3, none⟩)) rfl (by kernel_rfl) (by kernel_rfl) (by kernel_rfl) (fun _ _ _ h => h) rfl hS (fun w hw => by go_simp) ?_
  refine any_take (i := 4) (v := .agg (encF ff).toArray) rfl (by kernel_rfl) (by kernel_rfl) (by kernel_rfl) (fun _ _ _ h => h) rfl hS (fun w hw => fol_ld_run (.tmp 57) (by exact rfl) g i (by go_simp) hw.2 (unhide HGA) (unhide HIF) (unhide HFE)) ?_
  refine any_call (i := 5) (by kernel_rfl) rfl rfl (by go_simp) ((unhide HMs) wd hS.2) ?_
  rintro e w1 ⟨a6, c6, rfl, ho6, hb6⟩
  have hS1 : Lz W0 w1 b b2 b3 n s5 x m a c ∧ Pg W0.heap.size w1 n s5 x := ⟨hS.1.next hb6, hS.2.bel hb6⟩
  replace ho6 := ho6.mono hS.1.bel.size
  refine ⟨_, rfl, hS1, ?_⟩
  have hB1 := hS1.1.bel.size
  clear hb6 hS
  obtain ⟨s2, x2, n2, h2⟩ := hS1.1.row2
  have hA := (Bel.refl w1).alloc (.cells (qc mm a6 c6) 27)
  have hSA : Lz W0 (w1.alloc (.cells (qc mm a6 c6) 27)) b b2 b3 n s5 x m a c ∧ Pg W0.heap.size (w1.alloc (.cells (qc mm a6 c6) 27)) n s5 x := ⟨hS1.1.next hA, hS1.2.bel hA⟩
  have hO := hS1.1.out hS1.2
  have hSB : Lz W0 (w1.setRow b2 (pc n s5 x)) b b2 b3 n s5 x m a c ∧ Pg W0.heap.size (w1.setRow b2 (pc n s5 x)) n s5 x := ⟨hS1.1.st, hO.2.1⟩
  refine any_two (i := 6) (j := 7) (vi := .slice (some ⟨w1.heap.size, 0, none⟩) 1 1) (wi := w1.alloc (.cells (qc mm a6 c6) 27)) (wj := w1.setRow b2 (pc n s5 x)) (by kernel_rfl) (by exact rfl) (by exact rfl) (by exact rfl) (by exact rfl) (one_run (.tmp 59) (by exact rfl) (by go_simp)) (st_run (n := n) (s := s5) (z := x) (.tmp 4) (.tmp 54) (by exact rfl) (by go_simp) (by go_simp) h2) ⟨hSA, ?_⟩ ⟨hSB, ?_⟩
  · have hO2 := hSA.1.out hSA.2
    have HQ := hide (And.intro hO2 (hSA.1.outM (Mo.one hB1 (unhide HMK) ho6)))
    obtain ⟨s3, x3, n3, h3⟩ := hSA.1.row2
    have hSC : Lz W0 ((w1.alloc (.cells (qc mm a6 c6) 27)).setRow b2 (pc n s5 x)) b b2 b3 n s5 x m a c ∧ Pg W0.heap.size ((w1.alloc (.cells (qc mm a6 c6) 27)).setRow b2 (pc n s5 x)) n s5 x := ⟨hSA.1.st, hO2.2.1⟩
    refine any_skip (i := 7) (w' := (w1.alloc (.cells (qc mm a6 c6) 27)).setRow b2 (pc n s5 x)) (by kernel_rfl) rfl rfl (st_run (n := n) (s := s5) (z := x) (.tmp 4) (.tmp 54) (by exact rfl) (by go_simp) (by go_simp) h3) ⟨hSC, ?_⟩
    clear hSA hSB hO2 hO hA h2 h3 ho6 hS1
    generalize (w1.alloc (.cells (qc mm a6 c6) 27)).setRow b2 (pc n s5 x) = we at *
    refine any_do (i := 8) (v := .slice (some ⟨w1.heap.size, 0, none⟩) 1 1) (w' := we) (by kernel_rfl) rfl rfl (by go_simp) ⟨hSC, ?_⟩
    refine wpAnyH_done (by kernel_rfl) ?_ _
    clear hSC
    simp [Act.put]
    go_wp2_with fail
    rw [unhide HR]
    exact bodyPost_ret (res2 (p := 4) (q := 5) rfl Tryz.underlying56 (Tryz.size32 _ _ _) (unhide HQ).1.1 _ _ rfl rfl) rfl ⟨_, _, _, rfl, (unhide HQ).1.2.1, (unhide HQ).2, (unhide HQ).1.2.2⟩
  · have ho7 : E69.O W0.heap.size (w1.setRow b2 (pc n s5 x)) (.slice a6 mm.ents.length c6) mm.ents := ho6.box h2 (by decide) (ch_row (c' := pc n s5 x) h2).2
    clear hSA hA h2 ho6 hS1
    have hB2 := hO.2.2.size
    generalize w1.setRow b2 (pc n s5 x) = we at *
    have hA2 := (Bel.refl we).alloc (.cells (qc mm a6 c6) 27)
    have HQ := hide (And.intro (And.intro (hA2.row hO.1) (And.intro (hO.2.1.bel hA2) (hO.2.2.trans hA2))) (Mo.one hB2 (unhide HMK) ho7))
    have hSC : Lz W0 (we.alloc (.cells (qc mm a6 c6) 27)) b b2 b3 n s5 x m a c ∧ Pg W0.heap.size (we.alloc (.cells (qc mm a6 c6) 27)) n s5 x := ⟨hSB.1.next hA2, hSB.2.bel hA2⟩
    refine any_do (i := 6) (v := .slice (some ⟨we.heap.size, 0, none⟩) 1 1) (w' := we.alloc (.cells (qc mm a6 c6) 27)) (by kernel_rfl) rfl rfl (one_run (.tmp 59) (by exact rfl) (by go_simp)) ⟨hSC, ?_⟩
    clear hSB hO ho7
    generalize we.alloc (.cells (qc mm a6 c6) 27) = wf at *
    refine any_do (i := 8) (v := .slice (some ⟨we.heap.size, 0, none⟩) 1 1) (w' := wf) (by kernel_rfl) rfl rfl (by go_simp) ⟨hSC, ?_⟩
    refine wpAnyH_done (by kernel_rfl) ?_ _
    clear hSC
    simp [Act.put]
    go_wp2_with fail
    rw [unhide HR]
    exact bodyPost_ret (res2 (p := 4) (q := 5) rfl Tryz.underlying56 (Tryz.size32 _ _ _) (unhide HQ).1.1 _ _ rfl rfl) rfl ⟨_, _, _, rfl, (unhide HQ).1.2.1, (unhide HQ).2, (unhide HQ).1.2.2⟩

/-- A whole message is taken first. -/
theorem any_ldq {ops : Array Oper} {Q : Exit → Act → World → Prop} {md : Region.Mode} {S : World → Prop} {i : Nat} {o : Oper} {fuel : Nat} {listed : Array Bool} {a : Act} {w : World} {q : QM} {ad : Option Addr} {cp : Nat} {b : Nat} {y : Operand} (hi : ops[i]? = some o) (hs : Region.noSelect ops = true) (hf : Region.free md ops listed i = true) (hr : (Region.ready md ops listed).contains i = true) (hQ : ∀ c a w, Q (.panic c) (a.put o.dst (.agg (qc q ad cp))) w → Q (.panic c) a w) (hw : Region.wanted o (yielded ops a.tmps) = true) (hS : S w) (ho : o.op = .load 27 y) (hx : a.eval y = .pointer (some ⟨b, 0, none⟩)) (hb : ∀ w, S w → w.heap[b]? = some (.cells (qc q ad cp) 27))
    (h : wpAnyH Tryz.prog md ops Q S fuel (listed.setIfInBounds i true) (a.put o.dst (.agg (qc q ad cp))) w) : wpAnyH Tryz.prog md ops Q S (fuel + 1) listed a w := any_take hi hs hf hr hQ hw hS (fun w hw => by
      unfold execOp
      simp only [ho, hx, Instr.loadAt, Instr.sureAddr, Sem.run_bind, Sem.run_pure, Result.andThen_ok, run_loadVar_row w b 27 27 _ (0, 0) _ (hb w hw) Tryz.underlying27 rfl (Tryz.sizeq q ad cp)]) h
theorem ldp_run {o : Oper} {a : Act} {w : World} {n : Nat} {s : PP} {x : Px} {b : Nat} (y : Operand) (ho : o.op = .load 56 y) (hx : a.eval y = .pointer (some ⟨b, 0, none⟩)) (hb : w.heap[b]? = some (.cells (pc n s x) 56)) : (execOp a.eval o).run Tryz.prog w = .ok (.value (.agg (pc n s x))) w := by
  unfold execOp
  simp only [ho, hx, Instr.loadAt, Instr.sureAddr, Sem.run_bind, Sem.run_pure, Result.andThen_ok, run_loadVar_row w b 56 56 _ (0, 0) _ hb Tryz.underlying56 rfl (Tryz.size32 n s x)]
set_option maxRecDepth 100000 in
set_option maxHeartbeats 8000000 in
theorem theard_ok (hW : Bel W0 W) (h : Pf W0.heap.size W n s x) (hok : Ok n T G s) (hn : n ≤ 64) (hG : G ≤ 900000) (hr : s.role = 2) (hm : QOk n T G m) (ht : m.term = s.term) (ho : m.ok = true) {i : Nat} (hi : i < s.fol.length) (hq : s.fol.find? (fun g => g.1 == m.frm) = some s.fol[i]) : Calls Tryz.prog 76 #[.agg (pc n s x), .agg (qc m a c)] W fun e w' => ∃ x' aA cA, e = .returned (.tuple #[.agg (pc n (s.theard m).1 x'), .slice aA (s.theard m).2.length cA]) ∧ Pg W0.heap.size w' n (s.theard m).1 x' ∧ Mo W0.heap.size w' (.slice aA (s.theard m).2.length cA) (s.theard m).2 ∧ Bel W0 w' := by
  obtain ⟨r, hrr⟩ : ∃ r, r = s.theard m := ⟨_, rfl⟩
  rw [← hrr]
  unfold PP.theard at hrr
  rw [if_pos ht, hq] at hrr
  simp only [ho, if_true] at hrr
  have hgl := hok.glen
  have hix := hm.index
  have hfo := fol_ok hok hr s.fol[i] (List.getElem_mem hi)
  obtain ⟨mv, hmv⟩ : ∃ mv, mv = max s.fol[i].2.2 (min (m.index : Int) s.log.length) := ⟨_, rfl⟩
  rw [← hmv] at hrr
  have hbd : 0 ≤ mv ∧ mv ≤ (s.log.length : Int) := by omega
  have hs5 := setF_ok hok hr (s.fol[i].1, mv + 1, mv) (by dsimp only; omega)
  have hse := setF_set (f := (s.fol[i].1, mv + 1, mv)) (fol_nodup hok) hi rfl
  obtain ⟨g, hga⟩ : ∃ g, x.aF = some ⟨g, 0, none⟩ := by
    obtain ⟨a', c', g', e, h1, _⟩ := h.f.shape
    injection e with e1
    exact ⟨g', by rw [e1]; exact h1 (by omega)⟩
  have HGA := hide hga
  have HP := hide h.pg
  have HW := hide hW
  have HFo : Hid (∀ w1, Bel W w1 → Calls Tryz.prog 111 #[.agg (pc n s x), .int .i64 m.frm] w1 fun e w' => e = .returned (.int .i64 (i : Int)) ∧ Bel w1 w') := hide (fun w1 hb => folat_at (h.pw.f.bel hb) (fol_len hok hn) (fol_nodup hok) hi hq)
  have HLa : Hid (∀ w1, Bel W w1 → Calls Tryz.prog 48 #[.agg (pc n s x)] w1 fun e w' => ∃ t, e = .returned (.tuple #[.int .u64 (s.log.length : Int), .int .u64 t]) ∧ Bel w1 w') := hide (fun w1 hb => (last_any (h.pw.l.bel hb) (by have := hok.glen; omega)).mono (fun _ _ ⟨he, hb'⟩ => ⟨_, he, hb'⟩))
  have hir : (i : Int) < s.fol.length := by omega
  have hi0 : ¬ ((i : Int) < 0) := by omega
  obtain ⟨ff, hff⟩ : ∃ ff, ff = (s.fol[i].1, mv + 1, mv) := ⟨_, rfl⟩
  rw [← hff] at hrr hs5 hse
  obtain ⟨s5, hs5e⟩ : ∃ s5, s5 = s.setF ff := ⟨_, rfl⟩
  rw [← hs5e] at hrr hs5 hse
  have hl5 : s5.log = s.log := by rw [hse]
  have hid5 : s5.id = s.id := by rw [hse]
  obtain ⟨sA, hsA⟩ : ∃ sA, sA = s5.adv := ⟨_, rfl⟩
  rw [← hsA] at hrr
  have hlA : sA.log = s5.log ∧ sA.votes = s5.votes ∧ sA.fol = s5.fol := by rw [hsA]; exact ⟨rfl, rfl, rfl⟩
  obtain ⟨mm, hmm⟩ : ∃ mm, mm = sA.msg ff := ⟨_, rfl⟩
  have HMK : Hid (3 ≤ mm.kind) := hide (by rw [hmm]; exact Int.le_refl _)
  rw [← hmm] at hrr
  have HAd : Hid (∀ w1, Pg W0.heap.size w1 n s5 x → Calls Tryz.prog 49 #[.agg (pc n s5 x)] w1 fun e w' => e = .returned (.agg (pc n sA x)) ∧ Bel w1 w') := hide (fun w1 hp => by
    rw [hsA]
    exact adv_any hp.pq.pw hn (mem_iff.2 ⟨by rw [hid5]; exact hok.id1, by rw [hid5]; exact hok.idn⟩) (by rw [hl5]; omega) (fol_len hs5 hn) (most_ok hs5))
  have HMs : Hid (∀ w1, Pg W0.heap.size w1 n sA x → Calls Tryz.prog 105 #[.agg (pc n sA x), .agg (encF ff).toArray] w1 fun e w' => ∃ a' c', e = .returned (.agg (qc mm a' c')) ∧ E69.O w1.heap.size w' (.slice a' mm.ents.length c') mm.ents ∧ Bel w1 w') := hide (fun w1 hp => by
    rw [hmm]
    exact msg_any (Sl.of hp.l).1 (Sl.of hp.l).2.2 (by rw [hlA.1, hl5]; omega) ff (by rw [hff]; dsimp only; omega) (by rw [hff, hlA.1, hl5]; dsimp only; omega))
  have HIF : Hid (i < sA.fol.length) := hide (by rw [hlA.2.2, hse]; simpa using hi)
  have HFE : Hid (sA.fol[i]'(unhide HIF) = ff) := hide (by simp [hlA.2.2, hse])
  have HR := hide hrr
  have HSE : Hid (s5 = { s with fol := s.fol.set i ff }) := hide hse
  have HLA := hide hlA
  have HFF := hide hff
  have hw1 : IntKind.u64.wrap (mv + 1) = mv + 1 := wrapU (by omega) (by omega)
  have hmx : max s.fol[i].2.2 (min (m.index : Int) s.log.length) = mv := hmv.symm
  have hne : (m.term != s.term) = false := by simp [ht]
  clear h hW hok hn hG hr hm ht hq hrr hgl hix hfo hbd hs5 hse hga hff hs5e hmm hl5 hmv hsA hlA hid5
  obtain ⟨f1, hf1⟩ : ∃ f1, f1 = s.fol[i].1 := ⟨_, rfl⟩
  obtain ⟨f2, hf2⟩ : ∃ f2, f2 = s.fol[i].2.1 := ⟨_, rfl⟩
  obtain ⟨f3, hf3⟩ : ∃ f3, f3 = s.fol[i].2.2 := ⟨_, rfl⟩
  rw [← hf3] at hmx
  have HF123 := hide (And.intro hf1 (And.intro hf2 hf3))
  clear hf1 hf2 hf3
  obtain ⟨s4, hs4⟩ : ∃ s4 : PP, s4 = { s with fol := s.fol.set i (s.fol[i].1, s.fol[i].2.1, mv) } := ⟨_, rfl⟩
  have HS4 := hide hs4
  clear hs4
  have HI := hide hi
  go_enter Tryz.func76, Tryz.ntmps76
  go_wp2_with (first
      | go_skip
      | go_guarded
      | (refine bx_boxH 56 (.tmp 0) (by exact rfl) (by exact rfl) (pc n s x) (by exact rfl) ?_; intro b w0 hr0 hs0 hb0; have HR0 := hide hr0; have HB0 := hide (And.intro hb0 hs0); clear hr0 hs0 hb0)
      | (refine bx_boxH 27 (.tmp 1) (by exact rfl) (by exact rfl) (qc m a c) (by exact rfl) ?_; intro b3 w1 hr1 hs1 hb1; have HM0 := hide hr1; have HB1 := hide hb1; clear hr1 hs1 hb1)
      | (refine bx_new rfl 56 rfl _ Tryz.zero32 ?_; intro b2 w2 hr2 hs2 hb2; have HZ := hide ((Lz.mk0 (unhide HB0).1 (unhide HB0).2 (unhide HR0) (unhide HB1) (unhide HM0) hb2 hs2 hr2).back (unhide HW)); have HWZ := hide (Lz.mk0 (unhide HB0).1 (unhide HB0).2 (unhide HR0) (unhide HB1) (unhide HM0) hb2 hs2 hr2).bel; have y1 := (Bq.of (unhide HZ).rm).c1; clear hr2 hs2 hb2 HR0 HB0 HM0 HB1)
      | (refine bx_ldH 56 (.tmp 2) (by exact rfl) b (by exact rfl) (by exact rfl) (pc n s x) _ (unhide HZ).row Tryz.underlying56 (Tryz.size32 _ _ _) ?_)
      | (go_at_call 111; refine ((unhide HFo) _ (unhide HWZ)).mono ?_; rintro e w6 ⟨rfl, hb6⟩; replace HZ := hide ((unhide HZ).next hb6); replace HWZ := hide ((unhide HWZ).trans hb6); have y3 := (Bq.of (unhide HZ).rm).c3; have y2 := (Bx.of (unhide HZ).row).c2; clear hb6 HFo)
      | (go_at_call 48; refine ((unhide HLa) _ (unhide HWZ)).mono ?_; rintro e w7 ⟨t7, rfl, hb7⟩; replace HZ := hide ((unhide HZ).next hb7); replace HWZ := hide ((unhide HWZ).trans hb7); have y15 := (Bx.of (unhide HZ).row).c15; rw [unhide HGA] at y15; have y8 := (Bq.of (unhide HZ).rm).c8; rw [ho] at y8; clear hb7 HLa))
  have HPG := hide ((unhide HP).bel (unhide HWZ))
  have hf7 := (unhide HPG).f
  rw [unhide HGA] at hf7
  obtain ⟨r0, r1, r2⟩ := E65_cell hf7.row i (unhide HI)
  have z0 : w7.frozen? ⟨g, i * 3 + 2, none⟩ = false := World.ownsRow.frozenAt hf7 _
  rw [← (unhide HF123).2.2] at r2
  rw [Nat.zero_add] at r2
  have y4 := (Bq.of (unhide HZ).rm).c4
  clear hf7 r0 r1 y2 y3 y8 y15
  go_region
  have HL4 : Hid (Lz W0 (w7.setCell ⟨g, i * 3 + 2, none⟩ (.int .u64 mv)).drew b b2 b3 n s4 x m a c ∧ Pg W0.heap.size (w7.setCell ⟨g, i * 3 + 2, none⟩ (.int .u64 mv)).drew n s4 x) := hide (by
    rw [unhide HS4]
    have hf7 := (unhide HPG).f
    rw [unhide HGA] at hf7
    refine (fun hh => ⟨hh.1.next (Bel.refl _).drew, hh.2.bel (Bel.refl _).drew⟩) ((unhide HZ).fol (unhide HPG) (unhide HGA) (by simp) ?_ (Ch.set (ad := ⟨g, i * 3 + 2, none⟩) (Ch.refl (fun k => k = g) w7) (Or.inl rfl) _))
    rw [unhide HGA]
    exact hf7.match1 (unhide HI) mv)
  clear HZ HPG HWZ r2 z0 y4 y1
  generalize (w7.setCell ⟨g, i * 3 + 2, none⟩ (.int .u64 mv)).drew = w8 at *
  have hf8 := (unhide HL4).2.f
  rw [unhide HGA] at hf8
  have HI4 : Hid (i < s4.fol.length) := hide (by rw [unhide HS4]; simpa using hi)
  have HF4 : Hid (s4.fol[i]'(unhide HI4) = (f1, f2, mv)) := hide (by
    have := unhide HF123
    have e4 : s4.fol[i]'(unhide HI4) = (s.fol[i]'hi |>.1, (s.fol[i]'hi).2.1, mv) := by simp [unhide HS4]
    rw [e4, this.1, this.2.1])
  obtain ⟨r0, r1, r2⟩ := E65_cell hf8.row i (unhide HI4)
  rw [unhide HF4] at r1 r2
  rw [Nat.zero_add] at r1 r2
  dsimp only at r1 r2
  have z0 : w8.frozen? ⟨g, i * 3 + 1, none⟩ = false := World.ownsRow.frozenAt hf8 _
  clear hf8 r0
  go_wp2_with fail
  have HL5 : Hid (Lz W0 (w8.setCell ⟨g, i * 3 + 1, none⟩ (.int .u64 (mv + 1))) b b2 b3 n s5 x m a c ∧ Pg W0.heap.size (w8.setCell ⟨g, i * 3 + 1, none⟩ (.int .u64 (mv + 1))) n s5 x) := hide (by
    have hf8 := (unhide HL4).2.f
    rw [unhide HGA] at hf8
    have h9 := (unhide HL4).1.fol (unhide HL4).2 (unhide HGA) (F' := s4.fol.set i ff) (by simp) (by
      rw [unhide HGA]
      have := hf8.next1 (unhide HI4) (mv + 1)
      rw [unhide HF4] at this
      rw [unhide HFF, ← (unhide HF123).1]
      exact this) (Ch.set (ad := ⟨g, i * 3 + 1, none⟩) (Ch.refl (fun k => k = g) w8) (Or.inl rfl) _)
    have e5 : ({ s4 with fol := s4.fol.set i ff } : PP) = s5 := by rw [unhide HSE, unhide HS4]; simp
    rw [e5] at h9
    exact h9)
  clear HL4 r1 r2 z0 HI4 HF4
  generalize w8.setCell ⟨g, i * 3 + 1, none⟩ (.int .u64 (mv + 1)) = w9 at *
  have hLd : Lz W0 w9.drew b b2 b3 n s5 x m a c ∧ Pg W0.heap.size w9.drew n s5 x := ⟨(unhide HL5).1.next (Bel.refl _).drew, (unhide HL5).2.bel (Bel.refl _).drew⟩
  refine wp_region_held_drew (S := fun w => w.heap[b3]? = some (.cells (qc m a c) 27)) Tryz.follows hLd.1.rm (fun hS => ?_)
  generalize w9.drew = wd at *
  refine any_ldq (i := 2) (b := b3) rfl (by kernel_rfl) (by kernel_rfl) (by kernel_rfl) (fun _ _ _ h => h) rfl hS rfl rfl (fun w hw => hw) ?_
  refine any_do (i := 0) (v := .agg (pc n s5 x)) (w' := wd) (by kernel_rfl) rfl rfl (ldp_run (.tmp 2) (by exact rfl) (by go_simp) hLd.1.row) ⟨hS, ?_⟩
  refine any_call (i := 1) (by kernel_rfl) rfl rfl (by go_simp) ((unhide HAd) wd hLd.2) ?_
  rintro e wa ⟨rfl, hba⟩
  have hLa : Lz W0 wa b b2 b3 n s5 x m a c ∧ Pg W0.heap.size wa n s5 x := ⟨hLd.1.next hba, hLd.2.bel hba⟩
  refine ⟨_, rfl, hLa.1.rm, ?_⟩
  clear hLd hS hba
  refine any_call (i := 3) (by kernel_rfl) rfl rfl (by go_simp) (ackn_any (W := wa) (n := n) (s := sA) (x := x) (m := m) (a := a) (c := c)) ?_
  rintro e wb ⟨rfl, hbb⟩
  have hLb : Lz W0 wb b b2 b3 n s5 x m a c ∧ Pg W0.heap.size wb n s5 x := ⟨hLa.1.next hbb, hLa.2.bel hbb⟩
  refine ⟨_, rfl, hLb.1.rm, ?_⟩
  clear hLa hbb
  have hcc := ch_row (c' := pc n sA x) hLb.1.row
  have HL : Hid (Lz W0 (wb.setRow b (pc n sA x)) b b2 b3 n sA x m a c ∧ Pg W0.heap.size (wb.setRow b (pc n sA x)) n sA x) := hide ⟨hLb.1.set hcc.1 hcc.2, by
    have hp := hLb.2.box hLb.1.row hcc.2
    have hl := unhide HLA
    exact ⟨hp.m, hp.b, by rw [hl.1]; exact hp.l, by rw [hl.2.1]; exact hp.v, by rw [hl.2.2]; exact hp.f⟩⟩
  refine any_skip (i := 4) (w' := wb.setRow b (pc n sA x)) (by kernel_rfl) rfl rfl (st_run (n := n) (s := sA) (z := x) (.tmp 2) (.tmp 84) (by exact rfl) (by go_simp) (by go_simp) hLb.1.row) ⟨(unhide HL).1.rm, ?_⟩
  refine wpAnyH_done (by kernel_rfl) ?_ _
  clear hLb hcc HL5 HAd
  generalize wb.setRow b (pc n sA x) = wc at *
  have hfc := (unhide HL).2.f
  rw [unhide HGA] at hfc
  obtain ⟨r0, r1, r2⟩ := E65_cell hfc.row i (unhide HIF)
  rw [unhide HFE, unhide HFF] at r1
  rw [Nat.zero_add] at r1
  dsimp only at r1
  clear hfc r0 r2
  simp [Act.put]
  by_cases hla : (s.log.length : Int) < mv + 1
  · have HRa : Hid (r = (sA, [])) := hide (by rw [unhide HR, if_pos hla])
    clear HR HMs HMK
    go_wp2_with (first
      | go_skip
      | go_guarded
      | (refine bx_ldH 56 (.tmp 2) (by exact rfl) b (by exact rfl) (by exact rfl) (pc n sA x) _ (unhide HL).1.row Tryz.underlying56 (Tryz.size32 _ _ _) ?_)
      | (obtain ⟨s2, x2, n2, h2⟩ := (unhide HL).1.row2; refine bx_st rfl 56 (.tmp 4) _ rfl b2 (pc n sA x) _ rfl rfl h2 (Tryz.size32 _ _ _) rfl (pc_one _ _ _) ?_; intro w9 hr9 hc9; have HR9 := hide (And.intro hr9 (And.intro ((unhide HL).2.box h2 hc9) (bel_off (unhide HL).1.bel hc9 (unhide HL).1.ge2))); clear hr9 hc9 h2))
    rw [unhide HRa]
    exact bodyPost_ret (res2 (p := 4) (q := 5) rfl Tryz.underlying56 (Tryz.size32 _ _ _) (unhide HR9).1 _ _ rfl rfl) rfl ⟨_, _, _, rfl, (unhide HR9).2.1, Mo.nil _ _, (unhide HR9).2.2⟩
  · have HRb : Hid (r = (sA, [mm])) := hide (by rw [unhide HR, if_neg hla])
    have hla' : decide ((s.log.length : Int) < mv + 1) = false := decide_eq_false hla
    clear HR
    go_wp2_with fail
    clear r1 hla hla'
    have hSd : Lz W0 wc.drew b b2 b3 n sA x m a c ∧ Pg W0.heap.size wc.drew n sA x := ⟨(unhide HL).1.next (Bel.refl wc).drew, (unhide HL).2.bel (Bel.refl wc).drew⟩
    refine wp_region_held_drew (S := fun w => Lz W0 w b b2 b3 n sA x m a c ∧ Pg W0.heap.size w n sA x) Tryz.follows hSd (fun hS => ?_)
    clear hSd
    generalize wc.drew = wd at *
    refine any_ld (i := 0) (b := b) rfl (by kernel_rfl) (by kernel_rfl) (by kernel_rfl) (fun _ _ _ h => h) rfl hS rfl rfl (fun w hw => hw.1.row) ?_
    refine any_ld (i := 1) (b := b) rfl (by kernel_rfl) (by kernel_rfl) (by kernel_rfl) (fun _ _ _ h => h) rfl hS rfl rfl (fun w hw => hw.1.row) ?_
    refine any_take (i := 2) (v := .pointer (some ⟨g, i * 3, none⟩)) rfl (by kernel_rfl) (by kernel_rfl) (by kernel_rfl) (fun _ _ _ h => h) rfl hS (fun w hw => by go_simp) ?_
    refine any_take (i := 3) (v := .pointer (some ⟨g, i * 3, none⟩)) rfl (by kernel_rfl) (by kernel_rfl) (by kernel_rfl) (fun _ _ _ h => h) rfl hS (fun w hw => by go_simp) ?_
    refine any_take (i := 4) (v := .agg (encF ff).toArray) rfl (by kernel_rfl) (by kernel_rfl) (by kernel_rfl) (fun _ _ _ h => h) rfl hS (fun w hw => fol_ld_run (.tmp 95) (by exact rfl) g i (by go_simp) hw.2 (unhide HGA) (unhide HIF) (unhide HFE)) ?_
    refine any_call (i := 5) (by kernel_rfl) rfl rfl (by go_simp) ((unhide HMs) wd hS.2) ?_
    rintro e w1 ⟨a6, c6, rfl, ho6, hb6⟩
    have hS1 : Lz W0 w1 b b2 b3 n sA x m a c ∧ Pg W0.heap.size w1 n sA x := ⟨hS.1.next hb6, hS.2.bel hb6⟩
    replace ho6 := ho6.mono hS.1.bel.size
    refine ⟨_, rfl, hS1, ?_⟩
    have hB1 := hS1.1.bel.size
    clear hb6 hS
    obtain ⟨s2, x2, n2, h2⟩ := hS1.1.row2
    have hA := (Bel.refl w1).alloc (.cells (qc mm a6 c6) 27)
    have hSA : Lz W0 (w1.alloc (.cells (qc mm a6 c6) 27)) b b2 b3 n sA x m a c ∧ Pg W0.heap.size (w1.alloc (.cells (qc mm a6 c6) 27)) n sA x := ⟨hS1.1.next hA, hS1.2.bel hA⟩
    have hO := hS1.1.out hS1.2
    have hSB : Lz W0 (w1.setRow b2 (pc n sA x)) b b2 b3 n sA x m a c ∧ Pg W0.heap.size (w1.setRow b2 (pc n sA x)) n sA x := ⟨hS1.1.st, hO.2.1⟩
    refine any_two (i := 6) (j := 7) (vi := .slice (some ⟨w1.heap.size, 0, none⟩) 1 1) (wi := w1.alloc (.cells (qc mm a6 c6) 27)) (wj := w1.setRow b2 (pc n sA x)) (by kernel_rfl) (by exact rfl) (by exact rfl) (by exact rfl) (by exact rfl) (one_run (.tmp 97) (by exact rfl) (by go_simp)) (st_run (n := n) (s := sA) (z := x) (.tmp 4) (.tmp 92) (by exact rfl) (by go_simp) (by go_simp) h2) ⟨hSA, ?_⟩ ⟨hSB, ?_⟩
    · have hO2 := hSA.1.out hSA.2
      have HQ := hide (And.intro hO2 (hSA.1.outM (Mo.one hB1 (unhide HMK) ho6)))
      obtain ⟨s3, x3, n3, h3⟩ := hSA.1.row2
      have hSC : Lz W0 ((w1.alloc (.cells (qc mm a6 c6) 27)).setRow b2 (pc n sA x)) b b2 b3 n sA x m a c ∧ Pg W0.heap.size ((w1.alloc (.cells (qc mm a6 c6) 27)).setRow b2 (pc n sA x)) n sA x := ⟨hSA.1.st, hO2.2.1⟩
      refine any_skip (i := 7) (w' := (w1.alloc (.cells (qc mm a6 c6) 27)).setRow b2 (pc n sA x)) (by kernel_rfl) rfl rfl (st_run (n := n) (s := sA) (z := x) (.tmp 4) (.tmp 92) (by exact rfl) (by go_simp) (by go_simp) h3) ⟨hSC, ?_⟩
      clear hSA hSB hO2 hO hA h2 h3 ho6 hS1
      generalize (w1.alloc (.cells (qc mm a6 c6) 27)).setRow b2 (pc n sA x) = we at *
      refine any_do (i := 8) (v := .slice (some ⟨w1.heap.size, 0, none⟩) 1 1) (w' := we) (by kernel_rfl) rfl rfl (by go_simp) ⟨hSC, ?_⟩
      refine wpAnyH_done (by kernel_rfl) ?_ _
      clear hSC
      simp [Act.put]
      go_wp2_with fail
      rw [unhide HRb]
      exact bodyPost_ret (res2 (p := 4) (q := 5) rfl Tryz.underlying56 (Tryz.size32 _ _ _) (unhide HQ).1.1 _ _ rfl rfl) rfl ⟨_, _, _, rfl, (unhide HQ).1.2.1, (unhide HQ).2, (unhide HQ).1.2.2⟩
    · have ho7 : E69.O W0.heap.size (w1.setRow b2 (pc n sA x)) (.slice a6 mm.ents.length c6) mm.ents := ho6.box h2 (by decide) (ch_row (c' := pc n sA x) h2).2
      clear hSA hA h2 ho6 hS1
      have hB2 := hO.2.2.size
      generalize w1.setRow b2 (pc n sA x) = we at *
      have hA2 := (Bel.refl we).alloc (.cells (qc mm a6 c6) 27)
      have HQ := hide (And.intro (And.intro (hA2.row hO.1) (And.intro (hO.2.1.bel hA2) (hO.2.2.trans hA2))) (Mo.one hB2 (unhide HMK) ho7))
      have hSC : Lz W0 (we.alloc (.cells (qc mm a6 c6) 27)) b b2 b3 n sA x m a c ∧ Pg W0.heap.size (we.alloc (.cells (qc mm a6 c6) 27)) n sA x := ⟨hSB.1.next hA2, hSB.2.bel hA2⟩
      refine any_do (i := 6) (v := .slice (some ⟨we.heap.size, 0, none⟩) 1 1) (w' := we.alloc (.cells (qc mm a6 c6) 27)) (by kernel_rfl) rfl rfl (one_run (.tmp 97) (by exact rfl) (by go_simp)) ⟨hSC, ?_⟩
      clear hSB hO ho7
      generalize we.alloc (.cells (qc mm a6 c6) 27) = wf at *
      refine any_do (i := 8) (v := .slice (some ⟨we.heap.size, 0, none⟩) 1 1) (w' := wf) (by kernel_rfl) rfl rfl (by go_simp) ⟨hSC, ?_⟩
      refine wpAnyH_done (by kernel_rfl) ?_ _
      clear hSC
      simp [Act.put]
      go_wp2_with fail
      rw [unhide HRb]
      exact bodyPost_ret (res2 (p := 4) (q := 5) rfl Tryz.underlying56 (Tryz.size32 _ _ _) (unhide HQ).1.1 _ _ rfl rfl) rfl ⟨_, _, _, rfl, (unhide HQ).1.2.1, (unhide HQ).2, (unhide HQ).1.2.2⟩

theorem theard_any (hW : Bel W0 W) (h : Pf W0.heap.size W n s x) (hok : Ok n T G s) (hn : n ≤ 64) (hG : G ≤ 900000) (hm : QOk n T G m) : Calls Tryz.prog 76 #[.agg (pc n s x), .agg (qc m a c)] W fun e w' => ∃ x' aA cA, e = .returned (.tuple #[.agg (pc n (s.theard m).1 x'), .slice aA (s.theard m).2.length cA]) ∧ Pg W0.heap.size w' n (s.theard m).1 x' ∧ Mo W0.heap.size w' (.slice aA (s.theard m).2.length cA) (s.theard m).2 ∧ Bel W0 w' := by
  by_cases ht : m.term = s.term
  · cases hq : s.fol.find? (fun g => g.1 == m.frm) with
    | none =>
      have e : s.theard m = (s, []) := by unfold PP.theard; rw [if_pos ht, hq]
      rw [e]
      exact theard_no hW h (fun w1 hb => (folat_none (h.pw.f.bel hb) (fol_len hok hn) hq).mono (fun _ _ ⟨he, hb'⟩ => ⟨-1, he, hb', fun _ => by decide⟩))
    | some f =>
      have hfm : f ∈ s.fol := List.mem_of_find?_eq_some hq
      have hr : s.role = 2 := by
        rcases hok.role with h' | h' | h'
        · rw [h'.2.2] at hfm; cases hfm
        · rw [h'.2.2.2.2] at hfm; cases hfm
        · exact h'.1
      obtain ⟨i, hi, rfl⟩ := List.getElem_of_mem hfm
      cases ho : m.ok with
      | false => exact theard_bad hW h hok hn hG hr hm ht ho hi hq
      | true => exact theard_ok hW h hok hn hG hr hm ht ho hi hq
  · have e : s.theard m = (s, []) := by unfold PP.theard; rw [if_neg ht]
    rw [e]
    exact theard_no hW h (fun w1 hb => (folat_any (h.pw.f.bel hb) (fol_len hok hn) m.frm).mono (fun _ _ ⟨v, he, _, hb'⟩ => ⟨v, he, hb', fun h' => absurd h' ht⟩))
end
end Go.Proofs.YthipgcojbhcdgaaGreat
