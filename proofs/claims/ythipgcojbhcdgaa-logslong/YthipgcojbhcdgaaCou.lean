/- countTold. -/
import Derived.Test.YthipgcojbhcdgaaAns
namespace Go.Proofs.Ythipgcojbhcdgaa
open Go.RowKit Go.Maps Go.Sort
set_option maxRecDepth 100000 in
set_option maxHeartbeats 4000000 in
theorem told_any {base : Nat} {W : World} {n : Nat} {s : PP} {x : Px} {m : PM} (h : Pf base W n s x) (hB : base ≤ W.heap.size) (hn : n ≤ 64) (h1 : 1 ≤ n) (hl : s.log.length ≤ 999999) (hr : Ris s.votes) (hm : ∀ y ∈ s.votes, 1 ≤ y ∧ y ≤ n) (hf : s.role = 1 → s.fol = []) (hk : m.kind ≠ 1) (hF : 1 ≤ m.frm ∧ m.frm ≤ n) : Calls Try.prog 47 #[.agg (pc n s x), .agg (mc m)] W fun e w' => ∃ x' aA cA, e = .returned (.tuple #[.agg (pc n (s.take1 n m).1 x'), .slice aA (s.take1 n m).2.length cA]) ∧ Pf base w' n (s.take1 n m).1 x' ∧ E44.O W.heap.size w' (.slice aA (s.take1 n m).2.length cA) (s.take1 n m).2 ∧ Ch (Kx s x) W w' := by
  have hvl : s.votes.length ≤ n := ris_le n s.votes hr.nodup hm
  have HC : Hid (∀ W', Bel W W' → Calls Try.prog 38 #[.slice x.aM n x.cM, .int .i64 m.frm] W' fun e w' => e = .returned (.bool true) ∧ w' = W') := hide (fun W' hb => by
    have := contains_any (h.pw.m.bel hb) x.cM m.frm (by rw [mem_len]; omega)
    rw [mem_len, decide_eq_true (mem_iff.2 hF)] at this
    exact this)
  have HP := hide h
  have HBS := hide hB
  have HNN := hide (And.intro hn h1)
  have HL := hide hl
  obtain ⟨V', hV'⟩ : ∃ V', V' = s.votes ++ [m.frm] := ⟨_, rfl⟩
  obtain ⟨U, hU⟩ : ∃ U, U = wth s.votes m.frm := ⟨_, rfl⟩
  have HV' : Hid (V' = s.votes ++ [m.frm] ∧ True) := hide ⟨hV', trivial⟩
  have HLen : Hid (V'.length = s.votes.length + 1 ∧ s.votes.length ≤ 64) := hide ⟨by rw [hV']; simp, by omega⟩
  have HU : Hid (Ris U ∧ ∀ y, y ∈ U ↔ y ∈ V') := hide ⟨by rw [hU]; exact wth_ris hr _, fun y => by rw [hU, hV', wth_mem]; simp [or_comm]⟩
  have HUm : Hid (∀ y ∈ U, 1 ≤ y ∧ y ≤ n) := hide (fun y hy => by
    rw [hU] at hy
    rcases wth_mem.1 hy with rfl | hy
    · exact hF
    · exact hm y hy)
  have hT : s.take1 n m = if m.term = s.term ∧ s.role = 1 ∧ m.ok = true then (({ s with votes := U } : PP).winIf n, []) else (s, []) := by unfold PP.take1; rw [if_neg hk, hU]
  have hX : ((m.term != s.term) = true ∧ s.take1 n m = (s, [])) ∨ ((m.term != s.term) = false ∧ (s.role != 1) = true ∧ s.take1 n m = (s, [])) ∨ ((m.term != s.term) = false ∧ (s.role != 1) = false ∧ m.ok = false ∧ s.take1 n m = (s, [])) ∨ ((m.term != s.term) = false ∧ (s.role != 1) = false ∧ m.ok = true ∧ s.fol = [] ∧ s.take1 n m = (({ s with votes := U } : PP).winIf n, [])) := by
    by_cases c1 : m.term = s.term
    · by_cases c2 : s.role = 1
      · cases c3 : m.ok with
        | false => exact Or.inr (Or.inr (Or.inl ⟨by simp [c1], by simp [c2], rfl, by rw [hT, if_neg (by simp [c3])]⟩))
        | true => exact Or.inr (Or.inr (Or.inr ⟨by simp [c1], by simp [c2], rfl, hf c2, by rw [hT, if_pos ⟨c1, c2, c3⟩]⟩))
      · exact Or.inr (Or.inl ⟨by simp [c1], by simp [c2], by rw [hT, if_neg (fun h => c2 h.2.1)]⟩)
    · exact Or.inl ⟨by simp [c1], by rw [hT, if_neg (fun h => c1 h.1)]⟩
  clear h hB hn h1 hl hr hm hf hk hF hvl hV' hU hT
  generalize s.take1 n m = r at *
  rcases hX with ⟨c1, rfl⟩ | ⟨c1, c2, rfl⟩ | ⟨c1, c2, c3, rfl⟩ | ⟨c1, c2, c3, hf0, rfl⟩
  · clear HV' HLen HU HUm
    go_enter Try.func47, Try.ntmps47
    go_wp2_with (first
      | go_skip
      | go_guarded
      | (refine bx_boxH 32 (.tmp 0) (by exact rfl) (by exact rfl) (pc n s x) (by exact rfl) ?_; intro b w0 hr0 hs0 hb0; have HR0 := hide hr0; have HB0 := hide (And.intro hb0 hs0); clear hr0 hs0 hb0)
      | (refine bx_boxH 44 (.tmp 1) (by exact rfl) (by exact rfl) (mc m) (by exact rfl) ?_; intro b3 w1 hr1 hs1 hb1; have HM0 := hide (And.intro hr1 hs1); have HB1 := hide hb1; clear hr1 hs1 hb1)
      | (refine bx_new rfl 32 rfl _ Try.zero32 ?_; intro b2 w2 hr2 hs2 hb2; have hA := (Az.mk0 (unhide HP) (unhide HB0).1 (unhide HB0).2 (unhide HR0) (unhide HB1) (unhide HM0).2 (unhide HM0).1 hb2 hs2 hr2); have HBW := hide hA.bel; have HZ : Hid (Wz base (Kx s x) W w2 b b2 n s x) := hide ⟨hA.row, hA.pf, hA.bel.ch _, hA.row2, hA.ge, hA.ge2, hA.ne, unhide HBS, Kx.cq W s x⟩; have m1 := (Bm.of hA.rm).c1; have m3 := (Bm.of hA.rm).c3; have m8 := (Bm.of hA.rm).c8; have y1 := (Bx.of hA.row).c1; have y2 := (Bx.of hA.row).c2; have y4 := (Bx.of hA.row).c4; have y14 := (Bx.of hA.row).c14; clear hr2 hs2 hb2 HR0 HB0 HM0 HB1 hA)
      | (go_at_call 38; refine ((unhide HC) _ (unhide HBW)).mono ?_; rintro e w3 ⟨rfl, rfl⟩)
      | (refine bx_ldH 32 (.tmp 2) (by exact rfl) b (by exact rfl) (by exact rfl) _ _ (unhide HZ).row Try.underlying32 (Try.size32 _ _ _) ?_)
      | (obtain ⟨s2, x2, n2, h2⟩ := (unhide HZ).row2; refine bx_st rfl 32 _ _ rfl b2 _ _ rfl rfl h2 (Try.size32 _ _ _) rfl (pc_one _ _ _) ?_; intro w9 hr9 hc9; have HR9 := hide (And.intro hr9 (And.intro (ch_off (unhide HZ).bel hc9 (unhide HZ).ge2) ((unhide HZ).pf.box h2 hc9))); clear hr9 hc9 h2))
    refine bodyPost_ret (res2 (p := 4) (q := 5) rfl Try.underlying32 (Try.size32 _ _ _) (unhide HR9).1 _ _ rfl rfl) rfl ⟨_, none, 0, rfl, (unhide HR9).2.2, El.O.nil _ _, (unhide HR9).2.1⟩
  · clear HV' HLen HU HUm
    go_enter Try.func47, Try.ntmps47
    go_wp2_with (first
      | go_skip
      | go_guarded
      | (refine bx_boxH 32 (.tmp 0) (by exact rfl) (by exact rfl) (pc n s x) (by exact rfl) ?_; intro b w0 hr0 hs0 hb0; have HR0 := hide hr0; have HB0 := hide (And.intro hb0 hs0); clear hr0 hs0 hb0)
      | (refine bx_boxH 44 (.tmp 1) (by exact rfl) (by exact rfl) (mc m) (by exact rfl) ?_; intro b3 w1 hr1 hs1 hb1; have HM0 := hide (And.intro hr1 hs1); have HB1 := hide hb1; clear hr1 hs1 hb1)
      | (refine bx_new rfl 32 rfl _ Try.zero32 ?_; intro b2 w2 hr2 hs2 hb2; have hA := (Az.mk0 (unhide HP) (unhide HB0).1 (unhide HB0).2 (unhide HR0) (unhide HB1) (unhide HM0).2 (unhide HM0).1 hb2 hs2 hr2); have HBW := hide hA.bel; have HZ : Hid (Wz base (Kx s x) W w2 b b2 n s x) := hide ⟨hA.row, hA.pf, hA.bel.ch _, hA.row2, hA.ge, hA.ge2, hA.ne, unhide HBS, Kx.cq W s x⟩; have m1 := (Bm.of hA.rm).c1; have m3 := (Bm.of hA.rm).c3; have m8 := (Bm.of hA.rm).c8; have y1 := (Bx.of hA.row).c1; have y2 := (Bx.of hA.row).c2; have y4 := (Bx.of hA.row).c4; have y14 := (Bx.of hA.row).c14; clear hr2 hs2 hb2 HR0 HB0 HM0 HB1 hA)
      | (go_at_call 38; refine ((unhide HC) _ (unhide HBW)).mono ?_; rintro e w3 ⟨rfl, rfl⟩)
      | (refine bx_ldH 32 (.tmp 2) (by exact rfl) b (by exact rfl) (by exact rfl) _ _ (unhide HZ).row Try.underlying32 (Try.size32 _ _ _) ?_)
      | (obtain ⟨s2, x2, n2, h2⟩ := (unhide HZ).row2; refine bx_st rfl 32 _ _ rfl b2 _ _ rfl rfl h2 (Try.size32 _ _ _) rfl (pc_one _ _ _) ?_; intro w9 hr9 hc9; have HR9 := hide (And.intro hr9 (And.intro (ch_off (unhide HZ).bel hc9 (unhide HZ).ge2) ((unhide HZ).pf.box h2 hc9))); clear hr9 hc9 h2))
    refine bodyPost_ret (res2 (p := 4) (q := 5) rfl Try.underlying32 (Try.size32 _ _ _) (unhide HR9).1 _ _ rfl rfl) rfl ⟨_, none, 0, rfl, (unhide HR9).2.2, El.O.nil _ _, (unhide HR9).2.1⟩
  · clear HV' HLen HU HUm
    go_enter Try.func47, Try.ntmps47
    go_wp2_with (first
      | go_skip
      | go_guarded
      | (refine bx_boxH 32 (.tmp 0) (by exact rfl) (by exact rfl) (pc n s x) (by exact rfl) ?_; intro b w0 hr0 hs0 hb0; have HR0 := hide hr0; have HB0 := hide (And.intro hb0 hs0); clear hr0 hs0 hb0)
      | (refine bx_boxH 44 (.tmp 1) (by exact rfl) (by exact rfl) (mc m) (by exact rfl) ?_; intro b3 w1 hr1 hs1 hb1; have HM0 := hide (And.intro hr1 hs1); have HB1 := hide hb1; clear hr1 hs1 hb1)
      | (refine bx_new rfl 32 rfl _ Try.zero32 ?_; intro b2 w2 hr2 hs2 hb2; have hA := (Az.mk0 (unhide HP) (unhide HB0).1 (unhide HB0).2 (unhide HR0) (unhide HB1) (unhide HM0).2 (unhide HM0).1 hb2 hs2 hr2); have HBW := hide hA.bel; have HZ : Hid (Wz base (Kx s x) W w2 b b2 n s x) := hide ⟨hA.row, hA.pf, hA.bel.ch _, hA.row2, hA.ge, hA.ge2, hA.ne, unhide HBS, Kx.cq W s x⟩; have m1 := (Bm.of hA.rm).c1; have m3 := (Bm.of hA.rm).c3; have m8 := (Bm.of hA.rm).c8; have y1 := (Bx.of hA.row).c1; have y2 := (Bx.of hA.row).c2; have y4 := (Bx.of hA.row).c4; have y14 := (Bx.of hA.row).c14; clear hr2 hs2 hb2 HR0 HB0 HM0 HB1 hA)
      | (go_at_call 38; refine ((unhide HC) _ (unhide HBW)).mono ?_; rintro e w3 ⟨rfl, rfl⟩)
      | (refine bx_ldH 32 (.tmp 2) (by exact rfl) b (by exact rfl) (by exact rfl) _ _ (unhide HZ).row Try.underlying32 (Try.size32 _ _ _) ?_)
      | (obtain ⟨s2, x2, n2, h2⟩ := (unhide HZ).row2; refine bx_st rfl 32 _ _ rfl b2 _ _ rfl rfl h2 (Try.size32 _ _ _) rfl (pc_one _ _ _) ?_; intro w9 hr9 hc9; have HR9 := hide (And.intro hr9 (And.intro (ch_off (unhide HZ).bel hc9 (unhide HZ).ge2) ((unhide HZ).pf.box h2 hc9))); clear hr9 hc9 h2))
    refine bodyPost_ret (res2 (p := 4) (q := 5) rfl Try.underlying32 (Try.size32 _ _ _) (unhide HR9).1 _ _ rfl rfl) rfl ⟨_, none, 0, rfl, (unhide HR9).2.2, El.O.nil _ _, (unhide HR9).2.1⟩
  · have HF0 : Hid (({ s with votes := U } : PP).fol = []) := hide hf0
    clear hf0
    go_enter Try.func47, Try.ntmps47
    go_wp2_with (first
      | go_skip
      | go_guarded
      | (refine bx_boxH 32 (.tmp 0) (by exact rfl) (by exact rfl) (pc n s x) (by exact rfl) ?_; intro b w0 hr0 hs0 hb0; have HR0 := hide hr0; have HB0 := hide (And.intro hb0 hs0); clear hr0 hs0 hb0)
      | (refine bx_boxH 44 (.tmp 1) (by exact rfl) (by exact rfl) (mc m) (by exact rfl) ?_; intro b3 w1 hr1 hs1 hb1; have HM0 := hide (And.intro hr1 hs1); have HB1 := hide hb1; clear hr1 hs1 hb1)
      | (refine bx_new rfl 32 rfl _ Try.zero32 ?_; intro b2 w2 hr2 hs2 hb2; have hA := (Az.mk0 (unhide HP) (unhide HB0).1 (unhide HB0).2 (unhide HR0) (unhide HB1) (unhide HM0).2 (unhide HM0).1 hb2 hs2 hr2); have HBW := hide hA.bel; have HZ : Hid (Wz base (Kx s x) W w2 b b2 n s x) := hide ⟨hA.row, hA.pf, hA.bel.ch _, hA.row2, hA.ge, hA.ge2, hA.ne, unhide HBS, Kx.cq W s x⟩; have m1 := (Bm.of hA.rm).c1; have m3 := (Bm.of hA.rm).c3; have m8 := (Bm.of hA.rm).c8; have y1 := (Bx.of hA.row).c1; have y2 := (Bx.of hA.row).c2; have y4 := (Bx.of hA.row).c4; have y14 := (Bx.of hA.row).c14; clear hr2 hs2 hb2 HR0 HB0 HM0 HB1 hA)
      | (go_at_call 38; refine ((unhide HC) _ (unhide HBW)).mono ?_; rintro e w3 ⟨rfl, rfl⟩)
      | (at_builtin; refine app1_el (E := E3) m.frm V' (unhide HV').1 ((unhide HZ).pf.v.bel ((Bel.refl _).alloc _)) (Nat.le_trans (unhide HZ).hw (Nat.le_trans (unhide HZ).bel.size ((Bel.refl _).alloc _).size)) _ _ (at_new _ _) (by have := (unhide HLen); omega) rfl _ _ 24 rfl rfl rfl rfl ?_; intro g cap w4 ho4 hg4 hat4; have q4 := ((unhide HZ).next ((Bel.refl _).alloc _)).appV hg4; have HY := hide (And.intro q4 ho4); clear q4 ho4 hg4 hat4)
      | (go_at_call 32; refine (once_any (l := V') (Sl.of (unhide HY).2).1 (by have := (unhide HLen); omega)).mono ?_; rintro e w5 ⟨a5, c5, l5, rfl, ho5, hr5, hm5, hb5⟩; obtain rfl : l5 = U := ris_ext _ _ hr5 (unhide HU).1 (fun y => (hm5 y).trans ((unhide HU).2 y).symm); have HQ := hide (And.intro ho5 (And.intro (unhide HY).1.1.bel.size (And.intro (unhide HY).1.1 hb5))); replace HY := hide (And.intro (And.intro ((unhide HY).1.1.next hb5) (And.intro ((unhide HY).1.2.1.bel hb5) ((unhide HY).1.2.2.bel hb5))) trivial); clear ho5 hr5 hm5 hb5)
      | (refine fl_votes rfl _ _ rfl b _ l5 _ rfl rfl (unhide HY).1.1.row ?_; intro w6 hr6 hc6; replace HZ := hide ((unhide HY).1.1.set hr6 hc6 ⟨(unhide HY).1.1.m.box (unhide HY).1.1.row (by decide) hc6, (unhide HY).1.1.mb.box (unhide HY).1.1.row (by decide) hc6, (unhide HY).1.2.2.box (unhide HY).1.1.row (by decide) hc6, ((unhide HQ).1.mono (Nat.le_trans (unhide HBS) (unhide HQ).2.1)).box (unhide HY).1.1.row (by decide) hc6, (unhide HY).1.2.1.box (unhide HY).1.1.row (by decide) hc6, fun k j hk hj => Nat.lt_of_lt_of_le (hj.elim (fun e => ((unhide HQ).2.2.1.m.lt e).2) (fun e => ((unhide HQ).2.2.1.mb.lt e).2)) ((unhide HQ).1.lt hk).1⟩ ⟨(unhide HY).1.1.cq.1, (unhide HY).1.1.cq.2.1, fun k hk => Or.inr (Nat.le_trans (unhide HQ).2.1 ((unhide HQ).1.lt hk).1)⟩); clear hr6 hc6 HY)
      | (refine bx_ldH 32 (.tmp 2) (by exact rfl) b (by exact rfl) (by exact rfl) _ _ (unhide HZ).row Try.underlying32 (Try.size32 _ _ _) ?_)
      | (go_at_call 40; refine (win_any (unhide HZ).pf (Nat.le_trans (unhide HZ).hw (unhide HZ).bel.size) (unhide HNN).1 (unhide HNN).2 (unhide HL) (unhide HU).1 (unhide HUm) (unhide HF0)).mono ?_; rintro e w8 ⟨x8, rfl, hp8, hc8⟩; obtain ⟨s2, x2, n2, h2⟩ := (unhide HZ).row2; have HW8 := hide (And.intro hp8 (And.intro ((unhide HZ).bel.trans hc8 (fun i hi => ((unhide HZ).cq.kx i hi))) (Kx.row (unhide HZ).pf hc8 h2 (by decide)))); clear hp8 hc8 h2)
      | (refine bx_st rfl 32 _ _ rfl b2 _ _ rfl rfl (unhide HW8).2.2 (Try.size32 _ _ _) rfl (pc_one _ _ _) ?_; intro w9 hr9 hc9; have HR9 := hide (And.intro hr9 (And.intro (ch_off (unhide HW8).2.1 hc9 (unhide HZ).ge2) ((unhide HW8).1.box (unhide HW8).2.2 hc9))); clear hr9 hc9))
    refine bodyPost_ret (res2 (p := 4) (q := 5) rfl Try.underlying32 (Try.size32 _ _ _) (unhide HR9).1 _ _ rfl rfl) rfl ⟨_, none, 0, rfl, (unhide HR9).2.2, El.O.nil _ _, (unhide HR9).2.1⟩
end Go.Proofs.Ythipgcojbhcdgaa
