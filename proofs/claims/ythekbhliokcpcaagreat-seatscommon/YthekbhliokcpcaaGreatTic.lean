/- Tick. -/
import Derived.Test.YthekbhliokcpcaaGreatCam
namespace Go.Proofs.YthekbhliokcpcaaGreat
open Go.RowKit Go.Maps Go.Sort
theorem bel_kx {K : Nat → Prop} {W w w' : World} (h : Bel W w) (hc : Ch K w w') (hk : ∀ k, K k → W.heap.size ≤ k) : Bel W w' := ((h.ch (fun i => W.heap.size ≤ i)).trans hc (fun i hi => Or.inl (hk i hi))).below (Nat.le_refl _) (fun _ hi => hi)
theorem Kx.ge {base : Nat} {W : World} {n : Nat} {s : PP} {x : Px} (h : Pf base W n s x) : ∀ k, Kx s x k → base ≤ k := fun _ hk => hk.elim (fun e => (h.l.lt e).1) (fun hk => hk.elim (fun e => (h.f.lt e).1) (fun e => (h.v.lt e).1))
theorem seated_in {W : World} {n : Nat} {s : PP} {x : Px} (h : Sl E3 W x.aM (mem n)) (hn : n ≤ 64) (hi : s.id ∈ mem n) : Calls Tryz.prog 128 #[.agg (pc n s x)] W fun e w' => e = .returned (.bool true) ∧ Bel W w' := by
  have := seated_any (s := s) h hn
  rwa [decide_eq_true hi] at this
/-- How a member stands in its box b, the answer's box b2 beside it. -/
structure Tz (W w : World) (b b2 n : Nat) (s : PP) (x : Px) : Prop where
  row : w.heap[b]? = some (.cells (pc n s x) 31)
  pf : Pf W.heap.size w n s x
  bel : Bel W w
  row2 : ∃ s2 x2 n2, w.heap[b2]? = some (.cells (pc n2 s2 x2) 31)
  ge : W.heap.size ≤ b
  ge2 : W.heap.size ≤ b2
  ne : b2 ≠ b
section
variable {W w w' : World} {b b2 n : Nat} {s s' : PP} {x x' : Px}
theorem Tz.set (h : Tz W w b b2 n s x) (h1 : w'.heap[b]? = some (.cells (pc n s' x') 31)) (hc : Ch (fun i => i = b) w w') (hp : Pf W.heap.size w' n s' x') : Tz W w' b b2 n s' x' := by
  obtain ⟨s2, x2, n2, h2⟩ := h.row2
  exact ⟨h1, hp, bel_off h.bel hc h.ge, ⟨s2, x2, n2, hc.row h2 h.ne⟩, h.ge, h.ge2, h.ne⟩
theorem Tz.next (h : Tz W w b b2 n s x) (hb : Bel w w') : Tz W w' b b2 n s x := by
  obtain ⟨s2, x2, n2, h2⟩ := h.row2
  exact ⟨hb.row h.row, h.pf.bel hb, h.bel.trans hb, ⟨s2, x2, n2, hb.row h2⟩, h.ge, h.ge2, h.ne⟩
end
set_option maxRecDepth 100000 in
set_option maxHeartbeats 2000000 in
theorem tick_any {W : World} {n T G : Nat} {s : PP} {x : Px} (h : Pq W n s x) (hok : Ok n T G s) (hn : n ≤ 64) (hT : T ≤ 1000000) (hG : G ≤ 999999) (draw : Int) (hd : 0 ≤ draw) : Calls Tryz.prog 71 #[.agg (pc n s x), .int .i64 draw] W fun e w' => ∃ x' aA cA, e = .returned (.tuple #[.agg (pc n (s.tick n draw).1 x'), .slice aA (s.tick n draw).2.length cA, .int .i64 0]) ∧ Pf W.heap.size w' n (s.tick n draw).1 x' ∧ E44.O W.heap.size w' (.slice aA (s.tick n draw).2.length cA) (s.tick n draw).2 ∧ Bel W w' := by
  have hln := hok.lens hn
  have hgl := hok.glen
  have hid : s.id ∈ mem n := mem_iff.2 ⟨hok.id1, hok.idn⟩
  have H1 : Hid (∀ W', Bel W W' → Calls Tryz.prog 42 #[.agg (pc n s x)] W' fun e w' => e = .returned (.int .i64 0) ∧ Bel W' w') := hide (fun W' hb => may_ok (h.pw.bel hb) hok hn hT hG h.cap)
  have H2 : Hid (∀ W', Bel W W' → Calls Tryz.prog 41 #[.agg (pc n s x)] W' fun e w' => ∃ x', e = .returned (.agg (pc n s x')) ∧ Pf W.heap.size w' n s x' ∧ Bel W' w') := hide (fun W' hb => (clone_any (h.pw.bel hb) hn (by omega) hln.1 hln.2).mono (fun _ _ ⟨x', he, hf, hb'⟩ => ⟨x', he, ⟨hf.m.mono hb.size, hf.b.mono hb.size, hf.l.mono hb.size, hf.v.mono hb.size, hf.f.mono hb.size, hf.dv⟩, hb'⟩))
  have hd' : ¬ (draw < 0) := by omega
  by_cases hr : s.role = 2
  · have e1 : (s.role == 2) = true := by simp [hr]
    have HE : Hid (s.tick n draw = (s, [])) := hide (by unfold PP.tick; rw [if_pos hr])
    clear h hok hn hT hG hd hln hgl hid hr
    go_enter Tryz.func71, Tryz.ntmps71
    go_wp2_with (first
      | (refine bx_box rfl 31 _ rfl (pc n s x) rfl ?_; intro b w0 hr0 hs0 hb0; have HR0 := hide hr0; have HB0 := hide (And.intro hb0 hs0); clear hr0 hs0 hb0)
      | (refine bx_new rfl 31 rfl _ Tryz.zero32 ?_; intro b2 w1 hr1 hs1 hb1; have HR1 := hide (And.intro hr1 (And.intro (show W.heap.size ≤ b by have := (unhide HB0).2; omega) (And.intro (show W.heap.size ≤ b2 by have := (unhide HB0).1.size; omega) (show b2 ≠ b from fun e => by have := lt_of_some (unhide HR0); omega)))); replace HR0 := hide (hb1.row (unhide HR0)); have HB1 := hide ((unhide HB0).1.trans hb1); clear hr1 hs1 hb1)
      | (refine bx_ldG rfl 31 _ rfl b rfl (pc n s x) _ (unhide HR0) Tryz.underlying31 (Tryz.size32 _ _ _) ?_)
      | (go_at_call 42; refine ((unhide H1) _ (unhide HB1)).mono ?_; rintro e w2 ⟨rfl, hb2⟩; replace HR0 := hide (hb2.row (unhide HR0)); replace HR1 := hide (And.intro (hb2.row (unhide HR1).1) (unhide HR1).2); replace HB1 := hide ((unhide HB1).trans hb2); clear hb2)
      | (go_at_call 41; refine ((unhide H2) _ (unhide HB1)).mono ?_; rintro e w3 ⟨x1, rfl, hf3, hb3⟩; have HF3 := hide hf3; replace HR0 := hide (hb3.row (unhide HR0)); replace HR1 := hide (And.intro (hb3.row (unhide HR1).1) (unhide HR1).2); replace HB1 := hide ((unhide HB1).trans hb3); clear hb3 hf3)
      | (refine bx_st rfl 31 _ _ rfl b (pc n s x1) _ rfl rfl (unhide HR0) (Tryz.size32 _ _ _) rfl (pc_one _ _ _) ?_; intro w4 hr4 hc4; have y4 := (Bx.of hr4).c4; have y12 := (Bx.of hr4).c12; have HZ : Hid (Tz W w4 b b2 n s x1) := hide ⟨hr4, (unhide HF3).box (unhide HR0) hc4, bel_off (unhide HB1) hc4 (unhide HR1).2.1, ⟨_, _, _, hc4.row (unhide HR1).1 (unhide HR1).2.2.2⟩, (unhide HR1).2.1, (unhide HR1).2.2.1, (unhide HR1).2.2.2⟩; clear hr4 hc4 HR0 HR1 HF3)
      | (refine bx_ldG rfl 31 _ rfl b rfl _ _ (unhide HZ).row Tryz.underlying31 (Tryz.size32 _ _ _) ?_)
      | (obtain ⟨s2, x2, n2, h2⟩ := (unhide HZ).row2; refine bx_st rfl 31 _ _ rfl b2 _ _ rfl rfl h2 (Tryz.size32 _ _ _) rfl (pc_one _ _ _) ?_; intro w9 hr9 hc9; have HR9 := hide (And.intro hr9 (And.intro ((unhide HZ).pf.box h2 hc9) (bel_off (unhide HZ).bel hc9 (unhide HZ).ge2))); clear hr9 hc9 h2))
    rw [unhide HE]
    exact bodyPost_ret (res3 (p := 4) (q := 5) (r := 6) rfl Tryz.underlying31 (Tryz.size32 _ _ _) (unhide HR9).1 _ _ _ rfl rfl rfl) rfl ⟨_, _, _, rfl, (unhide HR9).2.1, El.O.nil _ _, (unhide HR9).2.2⟩
  · have e1 : (s.role == 2) = false := by simp [hr]
    have hidl := hok.idle
    have hwt := hok.wait
    have hw1 : IntKind.i64.wrap (s.idle + 1) = s.idle + 1 := wrapI (by omega) (by omega)
    have hmin : ¬ (1073741824 < s.idle + 1) := by omega
    have hmin2 : min (s.idle + 1) 1073741824 = s.idle + 1 := by omega
    have hmin3 : s.idle + 1 < 1073741824 := by omega
    by_cases hi : s.idle + 1 < s.wait
    · have HE : Hid (s.tick n draw = ({ s with idle := s.idle + 1 }, [])) := hide (by unfold PP.tick; rw [if_neg hr, if_pos hi])
      clear h hok hn hT hG hd hln hgl hid hr hidl hwt
      go_enter Tryz.func71, Tryz.ntmps71
      go_wp2_with (first
        | (refine bx_box rfl 31 _ rfl (pc n s x) rfl ?_; intro b w0 hr0 hs0 hb0; have HR0 := hide hr0; have HB0 := hide (And.intro hb0 hs0); clear hr0 hs0 hb0)
        | (refine bx_new rfl 31 rfl _ Tryz.zero32 ?_; intro b2 w1 hr1 hs1 hb1; have HR1 := hide (And.intro hr1 (And.intro (show W.heap.size ≤ b by have := (unhide HB0).2; omega) (And.intro (show W.heap.size ≤ b2 by have := (unhide HB0).1.size; omega) (show b2 ≠ b from fun e => by have := lt_of_some (unhide HR0); omega)))); replace HR0 := hide (hb1.row (unhide HR0)); have HB1 := hide ((unhide HB0).1.trans hb1); clear hr1 hs1 hb1)
        | (refine bx_ldG rfl 31 _ rfl b rfl (pc n s x) _ (unhide HR0) Tryz.underlying31 (Tryz.size32 _ _ _) ?_)
        | (go_at_call 42; refine ((unhide H1) _ (unhide HB1)).mono ?_; rintro e w2 ⟨rfl, hb2⟩; replace HR0 := hide (hb2.row (unhide HR0)); replace HR1 := hide (And.intro (hb2.row (unhide HR1).1) (unhide HR1).2); replace HB1 := hide ((unhide HB1).trans hb2); clear hb2)
        | (go_at_call 41; refine ((unhide H2) _ (unhide HB1)).mono ?_; rintro e w3 ⟨x1, rfl, hf3, hb3⟩; have HF3 := hide hf3; replace HR0 := hide (hb3.row (unhide HR0)); replace HR1 := hide (And.intro (hb3.row (unhide HR1).1) (unhide HR1).2); replace HB1 := hide ((unhide HB1).trans hb3); clear hb3 hf3)
        | (refine bx_st rfl 31 _ _ rfl b (pc n s x1) _ rfl rfl (unhide HR0) (Tryz.size32 _ _ _) rfl (pc_one _ _ _) ?_; intro w4 hr4 hc4; have y4 := (Bx.of hr4).c4; have y12 := (Bx.of hr4).c12; have HZ : Hid (Tz W w4 b b2 n s x1) := hide ⟨hr4, (unhide HF3).box (unhide HR0) hc4, bel_off (unhide HB1) hc4 (unhide HR1).2.1, ⟨_, _, _, hc4.row (unhide HR1).1 (unhide HR1).2.2.2⟩, (unhide HR1).2.1, (unhide HR1).2.2.1, (unhide HR1).2.2.2⟩; clear hr4 hc4 HR0 HR1 HF3)
        | (refine fl_idle rfl _ _ rfl b _ rfl rfl (unhide HZ).row ?_; intro w5 hr5 hc5; have z12 := (Bx.of hr5).c12; have z13 := (Bx.of hr5).c13; have z2 := (Bx.of hr5).c2; replace HZ := hide ((unhide HZ).set hr5 hc5 (by have p := (unhide HZ).pf.box (unhide HZ).row hc5; exact ⟨p.m, p.b, p.l, p.v, p.f, p.dv⟩)); clear hr5 hc5)
        | (refine bx_ldG rfl 31 _ rfl b rfl _ _ (unhide HZ).row Tryz.underlying31 (Tryz.size32 _ _ _) ?_)
        | (obtain ⟨s2, x2, n2, h2⟩ := (unhide HZ).row2; refine bx_st rfl 31 _ _ rfl b2 _ _ rfl rfl h2 (Tryz.size32 _ _ _) rfl (pc_one _ _ _) ?_; intro w9 hr9 hc9; have HR9 := hide (And.intro hr9 (And.intro ((unhide HZ).pf.box h2 hc9) (bel_off (unhide HZ).bel hc9 (unhide HZ).ge2))); clear hr9 hc9 h2))
      rw [unhide HE]
      exact bodyPost_ret (res3 (p := 4) (q := 5) (r := 6) rfl Tryz.underlying31 (Tryz.size32 _ _ _) (unhide HR9).1 _ _ _ rfl rfl rfl) rfl ⟨_, _, _, rfl, (unhide HR9).2.1, El.O.nil _ _, (unhide HR9).2.2⟩
    · have HE : Hid (s.tick n draw = ((s.cand draw).winIf n, (s.cand draw).asks n)) := hide (by unfold PP.tick; rw [if_neg hr, if_neg hi])
      obtain ⟨sT, hsT⟩ : ∃ sT, sT = (PP.cand { s with idle := s.idle + 1 } draw).winIf n := ⟨_, rfl⟩
      obtain ⟨nA, hnA⟩ : ∃ nA, nA = ((PP.cand { s with idle := s.idle + 1 } draw).asks n).length := ⟨_, rfl⟩
      have HEQ := hide (And.intro hsT hnA)
      have HN := hide hn
      have HID := hide hid
      have HGL : Hid (s.log.length ≤ 999999) := hide (by omega)
      have HTM : Hid (0 ≤ s.term ∧ s.term ≤ 1000000) := hide ⟨hok.t0, by have := hok.tT; omega⟩
      have HFO : Hid (s.fol = []) := hide (by rcases hok.role with h' | h' | h'; exact h'.2.2; exact h'.2.2.2.2; exact absurd h'.1 hr)
      have HD := hide hd
      have htm : ¬ (4611686018427387904 ≤ s.term) := by have := hok.tT; omega
      have htm' : decide (4611686018427387904 ≤ s.term) = false := decide_eq_false htm
      have hi' : decide (s.idle + 1 < s.wait) = false := decide_eq_false hi
      clear h hok hn hT hG hd hln hgl hid hr hidl hwt hsT hnA
      go_enter Tryz.func71, Tryz.ntmps71
      go_wp2_with (first
        | (refine bx_box rfl 31 _ rfl (pc n s x) rfl ?_; intro b w0 hr0 hs0 hb0; have HR0 := hide hr0; have HB0 := hide (And.intro hb0 hs0); clear hr0 hs0 hb0)
        | (refine bx_new rfl 31 rfl _ Tryz.zero32 ?_; intro b2 w1 hr1 hs1 hb1; have HR1 := hide (And.intro hr1 (And.intro (show W.heap.size ≤ b by have := (unhide HB0).2; omega) (And.intro (show W.heap.size ≤ b2 by have := (unhide HB0).1.size; omega) (show b2 ≠ b from fun e => by have := lt_of_some (unhide HR0); omega)))); replace HR0 := hide (hb1.row (unhide HR0)); have HB1 := hide ((unhide HB0).1.trans hb1); clear hr1 hs1 hb1)
        | (refine bx_ldG rfl 31 _ rfl b rfl (pc n s x) _ (unhide HR0) Tryz.underlying31 (Tryz.size32 _ _ _) ?_)
        | (go_at_call 42; refine ((unhide H1) _ (unhide HB1)).mono ?_; rintro e w2 ⟨rfl, hb2⟩; replace HR0 := hide (hb2.row (unhide HR0)); replace HR1 := hide (And.intro (hb2.row (unhide HR1).1) (unhide HR1).2); replace HB1 := hide ((unhide HB1).trans hb2); clear hb2)
        | (go_at_call 41; refine ((unhide H2) _ (unhide HB1)).mono ?_; rintro e w3 ⟨x1, rfl, hf3, hb3⟩; have HF3 := hide hf3; replace HR0 := hide (hb3.row (unhide HR0)); replace HR1 := hide (And.intro (hb3.row (unhide HR1).1) (unhide HR1).2); replace HB1 := hide ((unhide HB1).trans hb3); clear hb3 hf3)
        | (refine bx_st rfl 31 _ _ rfl b (pc n s x1) _ rfl rfl (unhide HR0) (Tryz.size32 _ _ _) rfl (pc_one _ _ _) ?_; intro w4 hr4 hc4; have y4 := (Bx.of hr4).c4; have y12 := (Bx.of hr4).c12; have HZ : Hid (Tz W w4 b b2 n s x1) := hide ⟨hr4, (unhide HF3).box (unhide HR0) hc4, bel_off (unhide HB1) hc4 (unhide HR1).2.1, ⟨_, _, _, hc4.row (unhide HR1).1 (unhide HR1).2.2.2⟩, (unhide HR1).2.1, (unhide HR1).2.2.1, (unhide HR1).2.2.2⟩; clear hr4 hc4 HR0 HR1 HF3)
        | (refine fl_idle rfl _ _ rfl b _ rfl rfl (unhide HZ).row ?_; intro w5 hr5 hc5; have z12 := (Bx.of hr5).c12; have z13 := (Bx.of hr5).c13; have z2 := (Bx.of hr5).c2; replace HZ := hide ((unhide HZ).set hr5 hc5 (by have p := (unhide HZ).pf.box (unhide HZ).row hc5; exact ⟨p.m, p.b, p.l, p.v, p.f, p.dv⟩)); clear hr5 hc5)
        | (go_at_call 128; refine (seated_in (s := { s with idle := s.idle + 1 }) (unhide HZ).pf.pw.m (unhide HN) (unhide HID)).mono ?_; rintro e w6 ⟨rfl, hb6⟩; replace HZ := hide ((unhide HZ).next hb6); have z2 := (Bx.of (unhide HZ).row).c2; clear hb6)
        | (refine bx_ldG rfl 31 _ rfl b rfl _ _ (unhide HZ).row Tryz.underlying31 (Tryz.size32 _ _ _) ?_)
        | (obtain ⟨s2, x2, n2, h2⟩ := (unhide HZ).row2; refine bx_st rfl 31 _ _ rfl b2 _ _ rfl rfl h2 (Tryz.size32 _ _ _) rfl (pc_one _ _ _) ?_; intro w9 hr9 hc9; have HR9 := hide (And.intro hr9 (And.intro ((unhide HZ).pf.box h2 hc9) (bel_off (unhide HZ).bel hc9 (unhide HZ).ge2))); clear hr9 hc9 h2))
      refine (campaign_any (s := { s with idle := s.idle + 1 }) (unhide HZ).pf (unhide HZ).bel.size (unhide HN) (mem_iff.1 (unhide HID)) (unhide HGL) (unhide HTM) (unhide HFO) draw (unhide HD)).mono ?_
      rintro e w7 ⟨x7, aA, cA, he7, hp7, ho7, hc7⟩
      have he7' : e = .returned (.tuple #[.agg (pc n sT x7), .slice aA nA cA]) := by rw [he7, (unhide HEQ).1, (unhide HEQ).2]
      clear he7
      subst he7'
      obtain ⟨s2, x2, n2, h2⟩ := (unhide HZ).row2
      have HC7 : Hid (Pf W.heap.size w7 n sT x7 ∧ E44.O W.heap.size w7 (.slice aA nA cA) ((PP.cand { s with idle := s.idle + 1 } draw).asks n) ∧ _ ∧ _ ∧ Bel W w7) := hide ⟨by rw [(unhide HEQ).1]; exact hp7, by rw [(unhide HEQ).2]; exact ho7.mono (unhide HZ).bel.size, Kx.row (unhide HZ).pf hc7 (unhide HZ).row (by decide), Kx.row (unhide HZ).pf hc7 h2 (by decide), bel_kx (unhide HZ).bel hc7 (Kx.ge (unhide HZ).pf)⟩
      clear hp7 ho7 hc7 h2
      go_wp2_with (first
        | (refine bx_st rfl 31 _ _ rfl b (pc n sT x7) _ rfl rfl (unhide HC7).2.2.1 (Tryz.size32 _ _ _) rfl (pc_one _ _ _) ?_; intro w8 hr8 hc8; have HO8 := hide ((unhide HC7).2.1.box (unhide HC7).2.2.1 (by decide) hc8); have HZ8 : Hid (Tz W w8 b b2 n sT x7) := hide ⟨hr8, (unhide HC7).1.box (unhide HC7).2.2.1 hc8, bel_off (unhide HC7).2.2.2.2 hc8 (unhide HZ).ge, ⟨_, _, _, hc8.row (unhide HC7).2.2.2.1 (unhide HZ).ne⟩, (unhide HZ).ge, (unhide HZ).ge2, (unhide HZ).ne⟩; clear hr8 hc8 HC7 HZ)
        | (refine bx_ldG rfl 31 _ rfl b rfl _ _ (unhide HZ8).row Tryz.underlying31 (Tryz.size32 _ _ _) ?_)
        | (obtain ⟨s2, x2, n2, h2⟩ := (unhide HZ8).row2; refine bx_st rfl 31 _ _ rfl b2 _ _ rfl rfl h2 (Tryz.size32 _ _ _) rfl (pc_one _ _ _) ?_; intro w9 hr9 hc9; have HR9 := hide (And.intro hr9 (And.intro ((unhide HZ8).pf.box h2 hc9) (And.intro ((unhide HO8).box h2 (by decide) hc9) (bel_off (unhide HZ8).bel hc9 (unhide HZ8).ge2)))); clear hr9 hc9 h2))
      obtain ⟨hsT, hnA⟩ := unhide HEQ
      rw [unhide HE]
      subst hsT hnA
      exact bodyPost_ret (res3 (p := 4) (q := 5) (r := 6) rfl Tryz.underlying31 (Tryz.size32 _ _ _) (unhide HR9).1 _ _ _ rfl rfl rfl) rfl ⟨_, _, _, rfl, (unhide HR9).2.1, (unhide HR9).2.2.1, (unhide HR9).2.2.2⟩
end Go.Proofs.YthekbhliokcpcaaGreat
