/- alive. -/
import Derived.Test.YtgofdkheffoilaaGreatDoorFom
namespace Go.Proofs.YtgofdkheffoilaaGreatDoor
open Go.RowKit Go.Maps
theorem mem3 : mem 3 = [1, 2, 3] := by decide
theorem ch_cell {w w' : World} {k g i : Nat} {v : Value} (hc : Ch (fun j => j = k) w w') (h : w.cell? ⟨g, i, none⟩ = some v) (hn : g ≠ k) : w'.cell? ⟨g, i, none⟩ = some v := by
  have hl := World.block_lt_of_cell? _ _ h
  rw [← h]
  simp only [World.cell?, hc.block g hl hn]
set_option maxRecDepth 100000 in
set_option maxHeartbeats 4000000 in
theorem alive_any {W : World} : Calls Tryz.prog 8 #[] W fun e w' => e = .returned (.bool true) ∧ Bel W w' := by
  have HN : Hid (∀ W' : World, Calls Tryz.prog 21 #[.int .i64 1, .int .i64 10, .slice (some ⟨W'.heap.size, 0, none⟩) 3 3] (W'.alloc (.cells #[.int .i64 1, .int .i64 2, .int .i64 3] 3)) fun e w' => ∃ x', e = .returned (.tuple #[.agg (pc 3 (pnew 1 10) x'), .int .i64 0]) ∧ Pf W'.heap.size w' 3 (pnew 1 10) x' ∧ Bel W' w') := hide (fun W' => (new_any (n := 3) (id := 1) (wait := 10) (sl_new3 W' [1, 2, 3]) (by decide) (by decide) (by decide)).mono (fun _ _ ⟨x', he, hf, hb⟩ => ⟨x', he, ⟨hf.m.mono (by simp), hf.b.mono (by simp), hf.l.mono (by simp), hf.v.mono (by simp), hf.f.mono (by simp), hf.dv⟩, ((Bel.refl W').alloc _).trans hb⟩))
  have HO : Hid (∀ W' x', Pw W' 3 (pnew 1 10) x' → Calls Tryz.prog 22 #[.agg (pc 3 (pnew 1 10) x')] W' fun e w' => ∃ x2, e = .returned (.agg (pc 3 (pnew 1 10) x2)) ∧ Pm W'.heap.size w' 3 x2 ∧ Bel W' w') := hide (fun W' x' hp => own_any hp (by decide) rfl rfl rfl)
  have HD : Hid (∀ W' x' x2, Pw W' 3 (pnew 1 10) x' → Pw W' 3 (pnew 1 10) x2 → Calls Tryz.prog 15 #[.agg (pc 3 (pnew 1 10) x'), .agg (pc 3 (pvot (pnew 1 10) 1 1) x2)] W' fun e w' => ∃ g cap, e = .returned (.tuple #[.slice (some ⟨g, 0, none⟩) 1 cap, .int .i64 0]) ∧ E9.R w' g 0 [rc1] ∧ Bel W' w') := hide (fun W' x' x2 h1 h2 => (diff_vote (mb_new h1 (by decide) (by decide) (by decide)) (mb_vot h2 (by decide) (by decide) (by decide)) h1.b h2.b (by decide) rfl rfl rfl 1 1 (by decide) (by decide) rfl rfl (by decide)).mono (fun _ _ ⟨g, cap, he, ho, hb⟩ => ⟨g, cap, he, by rw [← vrec1]; exact El.O.row ho, hb⟩))
  have HF : Hid (∀ (W' : World) (g cap : Nat), E9.R W' g 0 [rc1] → Calls Tryz.prog 11 #[.int .i64 1, .int .i64 10, .slice (some ⟨W'.heap.size, 0, none⟩) 3 3, .slice (some ⟨g, 0, none⟩) 1 cap] (W'.alloc (.cells #[.int .i64 1, .int .i64 2, .int .i64 3] 3)) fun e w' => ∃ x', e = .returned (.tuple #[.agg (pc 3 (pvot (pnew 1 10) 1 1) x'), .int .i64 1, .int .i64 0]) ∧ Bel W' w') := hide (fun W' g cap hr => (fold_vote (n := 3) (id := 1) (wait := 10) (sl_new3 W' [1, 2, 3]) (hr.bel ((Bel.refl W').alloc _)) (by decide) (by decide) (by decide)).mono (fun _ _ ⟨x', he, hb⟩ => ⟨x', he, ((Bel.refl W').alloc _).trans hb⟩))
  have hrc : rc1.toList = [72, 1, 1, 1, 1] := by decide +kernel
  go_enter Tryz.func8, Tryz.ntmps8
  go_wp2_with (first
    | go_skip
    | (go_at_call 21; refine ((unhide HN) _).mono ?_; rintro e w1 ⟨x1, rfl, hp1, hb1⟩; have HP := hide (And.intro hp1 hb1); clear hp1 hb1 HN)
    | (go_at_call 22; refine ((unhide HO) _ _ (unhide HP).1.pw).mono ?_; rintro e w4 ⟨x4, rfl, hp4, hb4⟩; have HX := hide hp4; replace HP := hide (And.intro ((unhide HP).1.bel hb4) ((unhide HP).2.trans hb4)); replace HQ := hide (And.intro (hb4.row (unhide HQ).1) (unhide HQ).2); clear hp4 hb4 HO)
    | (refine bx_new rfl 29 rfl _ Tryz.zero32 ?_; intro b6 w11 hr11 hs11 hb11; have HK := hide (And.intro hr11 (And.intro ((unhide HG).2.trans hb11) (And.intro (show W.heap.size ≤ b6 by have := (unhide HG).2.size; omega) (And.intro (hb11.cell (unhide HG).1) (show g ≠ b6 from fun e => by have := World.block_lt_of_cell? _ _ (unhide HG).1; simp only at this; omega))))); clear hr11 hs11 hb11 HG)
    | (refine bx_new rfl 29 rfl _ Tryz.zero32 ?_; intro b3 w5 hr5 hs5 hb5; have HY := hide (And.intro hr5 (And.intro (show W.heap.size ≤ b3 by have := (unhide HP).2.size; omega) (show b ≠ b3 from fun e => by have := lt_of_some (unhide HQ).1; omega))); replace HX := hide ((unhide HX).bel hb5); replace HP := hide (And.intro ((unhide HP).1.bel hb5) ((unhide HP).2.trans hb5)); replace HQ := hide (And.intro (hb5.row (unhide HQ).1) (unhide HQ).2); clear hr5 hs5 hb5)
    | (refine bx_new rfl 29 rfl _ Tryz.zero32 ?_; intro b w2 hr2 hs2 hb2; have HQ := hide (And.intro hr2 (show W.heap.size ≤ b by have := (unhide HP).2.size; omega)); replace HP := hide (And.intro ((unhide HP).1.bel hb2) ((unhide HP).2.trans hb2)); clear hr2 hs2 hb2)
    | (refine bx_st rfl 29 (.tmp 1) (.tmp 12) rfl b (pc 3 (pnew 1 10) x1) _ rfl rfl (unhide HQ).1 (Tryz.size32 _ _ _) rfl (pc_one _ _ _) ?_; intro w3 hr3 hc3; replace HP := hide (And.intro ((unhide HP).1.box (unhide HQ).1 hc3) (bel_off (unhide HP).2 hc3 (unhide HQ).2)); replace HQ := hide (And.intro hr3 (unhide HQ).2); clear hr3 hc3)
    | (refine bx_st rfl 29 (.tmp 3) (.tmp 15) rfl b3 (pc 3 (pnew 1 10) x4) _ rfl rfl (unhide HY).1 (Tryz.size32 _ _ _) rfl (pc_one _ _ _) ?_; intro w6 hr6 hc6; replace HX := hide ((unhide HX).box (unhide HY).1 hc6); replace HP := hide (And.intro ((unhide HP).1.box (unhide HY).1 hc6) (bel_off (unhide HP).2 hc6 (unhide HY).2.1)); replace HQ := hide (And.intro (hc6.row (unhide HQ).1 (unhide HY).2.2) (unhide HQ).2); replace HY := hide (And.intro hr6 (unhide HY).2); clear hr6 hc6)
    | (refine fl_term rfl (.tmp 16) (.const (.int .u64 1)) rfl b3 1 rfl rfl (unhide HY).1 ?_; intro w7 hr7 hc7; replace HX := hide ((unhide HX).box (unhide HY).1 hc7); replace HP := hide (And.intro ((unhide HP).1.box (unhide HY).1 hc7) (bel_off (unhide HP).2 hc7 (unhide HY).2.1)); replace HQ := hide (And.intro (hc7.row (unhide HQ).1 (unhide HY).2.2) (unhide HQ).2); replace HY := hide (And.intro hr7 (unhide HY).2); clear hr7 hc7)
    | (refine fl_vote rfl (.tmp 17) (.const (.int .i64 1)) rfl b3 1 rfl rfl (unhide HY).1 ?_; intro w8 hr8 hc8; replace HX := hide ((unhide HX).box (unhide HY).1 hc8); replace HP := hide (And.intro ((unhide HP).1.box (unhide HY).1 hc8) (bel_off (unhide HP).2 hc8 (unhide HY).2.1)); replace HQ := hide (And.intro (hc8.row (unhide HQ).1 (unhide HY).2.2) (unhide HQ).2); have HZ : Hid (w8.heap[b3]? = some (.cells (pc 3 (pvot (pnew 1 10) 1 1) x4) 29)) := hide hr8; clear hr8 hc8)
    | (refine bx_ldH 29 (.tmp 1) (by exact rfl) b (by exact rfl) (by exact rfl) _ _ (unhide HQ).1 Tryz.underlying29 (Tryz.size32 _ _ _) ?_)
    | (refine bx_ldH 29 (.tmp 3) (by exact rfl) b3 (by exact rfl) (by exact rfl) _ _ (unhide HZ) Tryz.underlying29 (Tryz.size32 _ _ _) ?_)
    | (go_at_call 15; refine ((unhide HD) _ _ _ (unhide HP).1.pw ((unhide HX).pw rfl rfl rfl)).mono ?_; rintro e w9 ⟨g, cap, rfl, hr9, hb9⟩; have HR := hide (And.intro hr9 ((unhide HP).2.trans hb9)); clear hr9 hb9)
    | (go_at_call 11; refine ((unhide HF) _ _ _ (unhide HR).1).mono ?_; rintro e w10 ⟨x10, rfl, hb10⟩; have HG := hide (And.intro (hb10.cell (E9_cell (unhide HR).1 0 (by decide))) ((unhide HR).2.trans hb10)); clear hb10)
    | (refine bx_st rfl 29 (.tmp 6) (.tmp 28) rfl b6 (pc 3 (pvot (pnew 1 10) 1 1) x10) _ rfl rfl (unhide HK).1 (Tryz.size32 _ _ _) rfl (pc_one _ _ _) ?_; intro w12 hr12 hc12; have y2 : w12.cell? ⟨b6, 2, none⟩ = some (.int .u64 1) := (Bx.of hr12).c2; have y3 : w12.cell? ⟨b6, 3, none⟩ = some (.int .i64 1) := (Bx.of hr12).c3; have yg := ch_cell hc12 (unhide HK).2.2.2.1 (unhide HK).2.2.2.2; have HE := hide (bel_off (unhide HK).2.1 hc12 (unhide HK).2.2.1); clear hr12 hc12)
    | go_guarded)
  go_ret
  exact ⟨rfl, unhide HE⟩
end Go.Proofs.YtgofdkheffoilaaGreatDoor
