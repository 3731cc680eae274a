/- Fold of a new member and the record of its vote; alive. -/
import Derived.Test.YtgofdkheffoilaaGreatDoorFol
namespace Go.Proofs.YtgofdkheffoilaaGreatDoor
open Go.RowKit Go.Maps
theorem pvot_ok {n : Nat} {id wait : Int} (hi : 1 ≤ id ∧ id ≤ n) (hw : 1 ≤ wait ∧ wait ≤ 1000) : Ok n 1 0 (pvot (pnew id wait) 1 1) := by
  refine ⟨hi.1, hi.2, by show (0 : Int) ≤ 1; omega, Int.le_refl _, ⟨by show (0 : Int) ≤ 1; omega, by show (1 : Int) ≤ n; omega⟩, ⟨Int.le_refl _, ?_⟩, hw, ⟨Int.le_refl _, ?_⟩, ⟨List.Pairwise.nil, fun x hx => (by cases hx)⟩, Nat.le_refl _, Nat.le_refl _, List.Pairwise.nil, fun x hx => (by cases hx), Or.inl ⟨rfl, rfl, rfl⟩⟩
  · show (0 : Int) ≤ n; omega
  · show (0 : Int) ≤ 1000; omega
theorem mb_new {W : World} {n : Nat} {x : Px} {id wait : Int} (h : Pw W n (pnew id wait) x) (hn : n ≤ 64) (hi : 1 ≤ id ∧ id ≤ n) (hw : 1 ≤ wait ∧ wait ≤ 1000) : Mb W n (pnew id wait) x := fun W' hb => may_ok (h.bel hb) (pnew_ok hi hw) hn (by decide) (by decide) (Nat.zero_le _) rfl rfl rfl
theorem mb_vot {W : World} {n : Nat} {x : Px} {id wait : Int} (h : Pw W n (pnew id wait) x) (hn : n ≤ 64) (hi : 1 ≤ id ∧ id ≤ n) (hw : 1 ≤ wait ∧ wait ≤ 1000) : Mb W n (pvot (pnew id wait) 1 1) x := fun W' hb => may_ok (⟨h.m.bel hb, h.b.bel hb, h.l.bel hb, h.v.bel hb, h.f.bel hb⟩) (pvot_ok hi hw) hn (by decide) (by decide) (Nat.zero_le _) rfl rfl rfl
set_option maxRecDepth 100000 in
set_option maxHeartbeats 4000000 in
theorem fold_vote {W : World} {n : Nat} {a : Option Addr} {cap g cap2 : Nat} {id wait : Int} (h : Sl E3 W a (mem n)) (hr : E9.R W g 0 [rc1]) (hn : n ≤ 64) (hi : 1 ≤ id ∧ id ≤ n) (hw : 1 ≤ wait ∧ wait ≤ 1000) :
    Calls Tryz.prog 11 #[.int .i64 id, .int .i64 wait, .slice a n cap, .slice (some ⟨g, 0, none⟩) 1 cap2] W fun e w' => ∃ x', e = .returned (.tuple #[.agg (pc n (pvot (pnew id wait) 1 1) x'), .int .i64 1, .int .i64 0]) ∧ Bel W w' := by
  have HN : Hid (∀ W', Bel W W' → Calls Tryz.prog 21 #[.int .i64 id, .int .i64 wait, .slice a n cap] W' fun e w' => ∃ x', e = .returned (.tuple #[.agg (pc n (pnew id wait) x'), .int .i64 0]) ∧ Pf W.heap.size w' n (pnew id wait) x' ∧ Bel W' w') := hide (fun W' hb => (new_any (h.bel hb) hn hi hw).mono (fun _ _ ⟨x', he, hf, hb'⟩ => ⟨x', he, ⟨hf.m.mono hb.size, hf.b.mono hb.size, hf.l.mono hb.size, hf.v.mono hb.size, hf.f.mono hb.size, hf.dv⟩, hb'⟩))
  have HD : Hid (∀ W' x', Pf W.heap.size W' n (pnew id wait) x' → Calls Tryz.prog 27 #[.agg (pc n (pnew id wait) x'), .string rc1] W' fun e w' => e = .returned (.tuple #[.agg (pc n (pvot (pnew id wait) 1 1) x'), .bool true]) ∧ Bel W' w') := hide (fun W' x' hp => do_vote rfl (mb_vot hp.pw hn hi hw))
  have HC := hide (E9_cell hr 0 (by decide))
  clear h hr hn hi hw
  generalize rc1 = rc at *
  go_enter Tryz.func11, Tryz.ntmps11
  go_wp2_with (first
    | go_skip
    | (refine bx_new rfl 29 rfl _ Tryz.zero32 ?_; intro b w1 hr1 hs1 hb1; have HR := hide (And.intro hr1 (And.intro hb1 (Nat.le_of_eq hs1))); clear hr1 hs1 hb1)
    | (go_at_call 21; refine ((unhide HN) _ (unhide HR).2.1).mono ?_; rintro e w2 ⟨x2, rfl, hp2, hb2⟩; have HP := hide hp2; replace HR := hide (And.intro (hb2.row (unhide HR).1) (And.intro ((unhide HR).2.1.trans hb2) (unhide HR).2.2)); clear hp2 hb2)
    | (refine bx_st rfl 29 (.tmp 8) (.tmp 19) rfl b (pc n (pnew id wait) x2) _ rfl rfl (unhide HR).1 (Tryz.size32 _ _ _) rfl (pc_one _ _ _) ?_; intro w3 hr3 hc3; replace HP := hide ((unhide HP).box (unhide HR).1 hc3); have HQ := hide (And.intro hr3 (And.intro (bel_off (unhide HR).2.1 hc3 (unhide HR).2.2) (unhide HR).2.2)); clear hr3 hc3 HR)
    | go_guarded)
  go_loopw [27] (fun vk wr => ∃ k : Nat, k ≤ 1 ∧ vk = .int .i64 k ∧ Hid (wr.heap[b]? = some (.cells (pc n (if k = 0 then pnew id wait else pvot (pnew id wait) 1 1) x2) 29) ∧ Bel W wr ∧ W.heap.size ≤ b ∧ (k = 0 → Pf W.heap.size wr n (pnew id wait) x2))) (fun vk _ => 1 - (intOf vk).toNat)
  case atStart => exact ⟨0, Nat.zero_le _, rfl, hide ⟨(unhide HQ).1, (unhide HQ).2.1, (unhide HQ).2.2, fun _ => unhide HP⟩⟩
  case round =>
    obtain ⟨k, hk, rfl, HK⟩ := hrel
    by_cases h0 : k = 0
    · subst h0
      have c0 := (unhide HK).2.1.cell (unhide HC)
      have HK2 := hide (And.intro (show wr.heap[b]? = some (.cells (pc n (pnew id wait) x2) 29) from (unhide HK).1) (And.intro (unhide HK).2.1 (And.intro (unhide HK).2.2.1 ((unhide HK).2.2.2 rfl))))
      clear HK
      go_wp2_with (first
        | go_skip
        | (refine bx_ldH 29 (.tmp 8) (by exact rfl) b (by exact rfl) (by exact rfl) _ _ (unhide HK2).1 Tryz.underlying29 (Tryz.size32 _ _ _) ?_)
        | (go_at_call 27; refine ((unhide HD) _ _ (unhide HK2).2.2.2).mono ?_; rintro e w4 ⟨rfl, hb4⟩; have HK3 := hide (And.intro (hb4.row (unhide HK2).1) (And.intro ((unhide HK2).2.1.trans hb4) (unhide HK2).2.2.1)); clear hb4)
        | (refine bx_st rfl 29 (.tmp 8) (.tmp 36) rfl b (pc n (pvot (pnew id wait) 1 1) x2) _ rfl rfl (unhide HK3).1 (Tryz.size32 _ _ _) rfl (pc_one _ _ _) ?_; intro w5 hr5 hc5; have HK4 := hide (And.intro hr5 (And.intro (bel_off (unhide HK3).2.1 hc5 (unhide HK3).2.2) (unhide HK3).2.2)); clear hr5 hc5)
        | go_guarded)
      go_roundw
      case rel => exact ⟨1, Nat.le_refl _, by go_num, hide ⟨(unhide HK4).1, (unhide HK4).2.1, (unhide HK4).2.2, fun e => absurd e (by decide)⟩⟩
      case measure => simp [intOf]
    · obtain rfl : k = 1 := by omega
      have HK2 := hide (And.intro (show wr.heap[b]? = some (.cells (pc n (pvot (pnew id wait) 1 1) x2) 29) from (unhide HK).1) (And.intro (unhide HK).2.1 (unhide HK).2.2.1))
      clear HK
      go_wp2_with (first
        | go_skip
        | (refine bx_ldH 29 (.tmp 8) (by exact rfl) b (by exact rfl) (by exact rfl) _ _ (unhide HK2).1 Tryz.underlying29 (Tryz.size32 _ _ _) ?_)
        | (refine bx_st rfl 29 (.tmp 8) (.tmp 43) rfl b (pc n (pvot (pnew id wait) 1 1) x2) _ rfl rfl (unhide HK2).1 (Tryz.size32 _ _ _) rfl (pc_one _ _ _) ?_; intro w5 hr5 hc5; have HK4 := hide (And.intro hr5 (bel_off (unhide HK2).2.1 hc5 (unhide HK2).2.2)); clear hr5 hc5)
        | go_guarded)
      exact bodyPost_ret (res3 (p := 8) (q := 9) (r := 10) rfl Tryz.underlying29 (Tryz.size32 _ _ _) (unhide HK4).1 _ _ _ rfl rfl rfl) rfl ⟨_, rfl, (unhide HK4).2⟩
end Go.Proofs.YtgofdkheffoilaaGreatDoor
