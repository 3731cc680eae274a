/- A tick by which a member wins. -/
import Derived.Test.YthekbhliokcpcaaGreatLpr
namespace Go.Proofs.YthekbhliokcpcaaGreat
open Go.RowKit Go.Maps Go.Sort
set_option maxRecDepth 100000 in
set_option maxHeartbeats 4000000 in
theorem ltick_win {W : World} {n T G T1 G1 : Nat} {s : PP} {x : Px} (h : Pq W n s x) (hok : Ok n T G s) (hn : n ≤ 64) (hT : T ≤ 1000000) (hG : G ≤ 999999) (draw : Int) (hd : 0 ≤ draw) (hr : s.role ≠ 2) {s1 : PP} {l1 : List PM} (he : s.tick n draw = (s1, l1)) (hok1 : Ok n T1 G1 s1) (hG1 : G1 ≤ 999999) (hr1 : s1.role = 2) : Calls Tryz.prog 28 #[.agg (pc n s x), .int .i64 draw] W fun e w' => ∃ x' aA cA, e = .returned (.tuple #[.agg (pc n s1.adv x'), .slice aA l1.length cA, .int .i64 0]) ∧ Pf W.heap.size w' n s1.adv x' ∧ Bel W w' := by
  have HT : Hid (∀ W', Bel W W' → Calls Tryz.prog 71 #[.agg (pc n s x), .int .i64 draw] W' fun e w' => ∃ x' aA cA, e = .returned (.tuple #[.agg (pc n s1 x'), .slice aA l1.length cA, .int .i64 0]) ∧ Pf W.heap.size w' n s1 x' ∧ Bel W' w') := hide (fun W' hb => by
    have := tick_any (h.bel hb) hok hn hT hG draw hd
    rw [he] at this
    exact this.mono (fun _ _ ⟨x', aA, cA, he, hf, _, hb'⟩ => ⟨x', aA, cA, he, ⟨hf.m.mono hb.size, hf.b.mono hb.size, hf.l.mono hb.size, hf.v.mono hb.size, hf.f.mono hb.size, hf.dv⟩, hb'⟩))
  have hid : s1.id ∈ mem n := mem_iff.2 ⟨hok1.id1, hok1.idn⟩
  have H4 : Hid (∀ W' x', Pw W' n s1 x' → Calls Tryz.prog 72 #[.agg (pc n s1 x')] W' fun e w' => e = .returned (.agg (pc n s1.adv x')) ∧ Bel W' w') := hide (fun W' x' hp => adv_any hp hn hid (by have := hok1.glen; omega) (fol_len hok1 hn) (most_ok hok1))
  have e1 : (s.role == 2) = false := by simp [hr]
  have e2 : (s1.role != 2) = false := by simp [hr1]
  have e3 : (s1.role == 2) = true := by simp [hr1]
  clear h hok hn hT hG hd hr he hok1 hG1 hr1 hid
  generalize l1.length = nA at *
  go_enter Tryz.func28, Tryz.ntmps28
  go_wp2_with (first
    | go_skip
    | go_guarded
    | (refine bx_box rfl 31 _ rfl (pc n s x) rfl ?_; intro b w0 hr0 hs0 hb0; have HR0 := hide hr0; have HB0 := hide (And.intro hb0 hs0); clear hr0 hs0 hb0)
    | (refine bx_new rfl 31 rfl _ Tryz.zero32 ?_; intro b2 w1 hr1 hs1 hb1; have HY : Hid (Ty W w1 b b2 n s x) := hide ⟨hb1.row (unhide HR0), (unhide HB0).1.trans hb1, ⟨_, _, _, hr1⟩, by have := (unhide HB0).2; omega, by have := (unhide HB0).1.size; omega, fun e => by have := lt_of_some (unhide HR0); omega⟩; have y4 := (Bx.of (unhide HY).row).c4; clear hr1 hs1 hb1 HR0 HB0)
    | (refine bx_ldG rfl 31 _ rfl b rfl _ _ (unhide HY).row Tryz.underlying31 (Tryz.size32 _ _ _) ?_)
    | (go_at_call 71; refine ((unhide HT) _ (unhide HY).bel).mono ?_; rintro e w3 ⟨x1, aA, cA, rfl, hf3, hb3⟩; have HF3 := hide hf3; replace HY := hide ((unhide HY).next hb3); clear hb3 hf3)
    | (refine bx_st rfl 31 (.tmp 2) _ rfl b (pc n s1 x1) _ rfl rfl (unhide HY).row (Tryz.size32 _ _ _) rfl (pc_one _ _ _) ?_; intro w4 hr4 hc4; have y4 := (Bx.of hr4).c4; have HZ : Hid (Tz W w4 b b2 n s1 x1) := hide ⟨hr4, (unhide HF3).box (unhide HY).row hc4, bel_off (unhide HY).bel hc4 (unhide HY).ge, ((unhide HY).set hr4 hc4).row2, (unhide HY).ge, (unhide HY).ge2, (unhide HY).ne⟩; clear hr4 hc4 HY HF3)
    | (go_at_call 72; refine ((unhide H4) _ _ (unhide HZ).pf.pw).mono ?_; rintro e w8 ⟨rfl, hb8⟩; replace HZ := hide ((unhide HZ).next hb8); clear hb8)
    | (refine bx_ldG rfl 31 _ rfl b rfl _ _ (unhide HZ).row Tryz.underlying31 (Tryz.size32 _ _ _) ?_)
    | (refine bx_st rfl 31 (.tmp 2) _ rfl b (pc n s1.adv x1) _ rfl rfl (unhide HZ).row (Tryz.size32 _ _ _) rfl (pc_one _ _ _) ?_; intro w5 hr5 hc5; replace HZ := hide ((unhide HZ).set (s' := s1.adv) (x' := x1) hr5 hc5 (by have p := (unhide HZ).pf.box (unhide HZ).row hc5; exact ⟨p.m, p.b, p.l, p.v, p.f, p.dv⟩)); clear hr5 hc5)
    | (obtain ⟨s2, x2, n2, h2⟩ := (unhide HZ).row2; refine bx_st rfl 31 (.tmp 4) _ rfl b2 _ _ rfl rfl h2 (Tryz.size32 _ _ _) rfl (pc_one _ _ _) ?_; intro w9 hr9 hc9; have HR9 := hide (And.intro hr9 (And.intro ((unhide HZ).pf.box h2 hc9) (bel_off (unhide HZ).bel hc9 (unhide HZ).ge2))); clear hr9 hc9 h2))
  exact bodyPost_ret (res3 (p := 4) (q := 5) (r := 6) rfl Tryz.underlying31 (Tryz.size32 _ _ _) (unhide HR9).1 _ _ _ rfl rfl rfl) rfl ⟨_, _, _, rfl, (unhide HR9).2.1, (unhide HR9).2.2⟩
end Go.Proofs.YthekbhliokcpcaaGreat
