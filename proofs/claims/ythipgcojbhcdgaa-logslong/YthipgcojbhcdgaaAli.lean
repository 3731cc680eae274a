/- alive. -/
import Derived.Test.YthipgcojbhcdgaaNeg
namespace Go.Proofs.Ythipgcojbhcdgaa
open Go.RowKit Go.Maps Go.Sort
theorem sl_new3 (W : World) (l : List Int) : Sl E3 (W.alloc (.cells (l.map fun x => Value.int .i64 x).toArray 3)) (some ⟨W.heap.size, 0, none⟩) l :=
  ⟨W.heap.size, 0, fun _ => rfl, fun j hj c u hu => by
    have hc : c = 0 ∧ u = .int .i64 l[j] := by
      cases c with
      | zero => simp [E3] at hu; exact ⟨rfl, hu.symm⟩
      | succ c => simp [E3] at hu
    obtain ⟨rfl, rfl⟩ := hc
    rw [cell_of (at_new W _)]
    simp [E3, hj]⟩
/-- The first tick of the law's own member. -/
theorem tick1 : ((pnew 1 1).tick 3 3).1.term = 1 ∧ ((pnew 1 1).tick 3 3).1.role = 1 ∧ ((pnew 1 1).tick 3 3).1.wait = 13 ∧ ((pnew 1 1).tick 3 3).2.length = 2 := by decide
set_option maxRecDepth 100000 in
set_option maxHeartbeats 4000000 in
theorem alive_any {W : World} : Calls Try.prog 5 #[] W fun e w' => e = .returned (.bool true) ∧ Bel W w' := by
  have HN : Hid (∀ W' : World, Calls Try.prog 6 #[.int .i64 1, .int .i64 1, .slice (some ⟨W'.heap.size, 0, none⟩) 3 3] (W'.alloc (.cells #[.int .i64 1, .int .i64 2, .int .i64 3] 3)) fun e w' => ∃ x', e = .returned (.tuple #[.agg (pc 3 (pnew 1 1) x'), .int .i64 0]) ∧ Pf 0 w' 3 (pnew 1 1) x' ∧ Bel W' w') := hide (fun W' => (new_any (n := 3) (id := 1) (wait := 1) (sl_new3 W' [1, 2, 3]) (by decide) (by decide) (by decide)).mono (fun _ _ ⟨x', he, hf, hb⟩ => ⟨x', he, ⟨hf.m.mono (Nat.zero_le _), hf.b.mono (Nat.zero_le _), hf.l.mono (Nat.zero_le _), hf.v.mono (Nat.zero_le _), hf.f.mono (Nat.zero_le _), hf.dv⟩, ((Bel.refl W').alloc _).trans hb⟩))
  have HM : Hid (∀ W' : World, Calls Try.prog 6 #[.int .i64 1, .int .i64 10, .slice (some ⟨W'.heap.size, 0, none⟩) 2 2] (W'.alloc (.cells #[.int .i64 2, .int .i64 1] 3)) fun e w' => e = .returned (.tuple #[.agg (pc 0 ⟨0, 0, 0, 0, 0, 0, 0, [], [], [], 0⟩ ⟨none, 0, none, 0, none, 0, none, 0, none, 0, none, 0⟩), .int .i64 2]) ∧ Bel W' w') := hide (fun W' => (new_no (sl_new3 W' [2, 1])).mono (fun _ _ ⟨he, hb⟩ => ⟨he, ((Bel.refl W').alloc _).trans hb⟩))
  have HT : Hid (∀ W' x', Pf 0 W' 3 (pnew 1 1) x' → Calls Try.prog 7 #[.agg (pc 3 (pnew 1 1) x'), .int .i64 3] W' fun e w' => ∃ st x2 aA cA, (st.term = 1 ∧ st.role = 1 ∧ st.wait = 13) ∧ e = .returned (.tuple #[.agg (pc 3 st x2), .slice aA 2 cA, .int .i64 0]) ∧ Bel W' w') := hide (fun W' x' hp => (tick_any hp.pq (pnew_ok (by decide) (by decide)) (by decide) (by decide) (by decide) 3 (by decide)).mono (fun _ _ ⟨x2, aA, cA, he, _, _, hb⟩ => ⟨_, x2, aA, cA, ⟨tick1.1, tick1.2.1, tick1.2.2.1⟩, by rw [he, tick1.2.2.2], hb⟩))
  have HJ : Hid (∀ W' : World, Calls Try.prog 15 #[.slice (some ⟨W'.heap.size, 0, none⟩) 4 4, .slice (some ⟨W'.heap.size + 1, 0, none⟩) 3 3] ((W'.alloc (.cells #[.int .i64 1, .int .i64 2, .int .i64 3, .int .i64 4] 3)).alloc (.cells #[.int .i64 1, .int .i64 2, .int .i64 4] 3)) fun e w' => e = .returned (.bool true) ∧ Bel W' w') := hide (fun W' => by
    have hs : ∀ o, (W'.alloc o).heap.size = W'.heap.size + 1 := fun o => by unfold World.alloc; exact Array.size_push _
    have h1 : Sl E3 ((W'.alloc (.cells #[.int .i64 1, .int .i64 2, .int .i64 3, .int .i64 4] 3)).alloc (.cells #[.int .i64 1, .int .i64 2, .int .i64 4] 3)) (some ⟨W'.heap.size, 0, none⟩) [1, 2, 3, 4] := (sl_new3 W' [1, 2, 3, 4]).bel ((Bel.refl _).alloc _)
    have h2 : Sl E3 ((W'.alloc (.cells #[.int .i64 1, .int .i64 2, .int .i64 3, .int .i64 4] 3)).alloc (.cells #[.int .i64 1, .int .i64 2, .int .i64 4] 3)) (some ⟨W'.heap.size + 1, 0, none⟩) [1, 2, 4] := by
      have := sl_new3 (W'.alloc (.cells #[.int .i64 1, .int .i64 2, .int .i64 3, .int .i64 4] 3)) [1, 2, 4]
      rw [hs] at this
      exact this
    have := majority_any (cap := 4) (cap2 := 3) h1 h2 (by decide) (by decide) (M' := [1, 2, 3, 4]) (I' := [1, 2, 4]) (by simp [Ris]) (fun _ => Iff.rfl) (by simp [Ris]) (fun _ => Iff.rfl) (by decide) (by decide)
    exact this.mono (fun e w' ⟨he, hb⟩ => ⟨he.trans (congrArg (fun v => Ending.returned (Value.bool v)) (by decide)), (((Bel.refl W').alloc _).alloc _).trans hb⟩))
  go_enter Try.func5, Try.ntmps5
  go_wp2_with (first
    | go_skip
    | (go_at_call 6; refine ((unhide HN) _).mono ?_; rintro e w1 ⟨x1, rfl, hp1, hb1⟩; have HP := hide hp1; have HB := hide hb1; clear hp1 hb1 HN)
    | (go_at_call 6; refine ((unhide HM) _).mono ?_; rintro e w2 ⟨rfl, hb2⟩; have HR := hide (hb2.row (unhide HR)); have HP := hide ((unhide HP).bel hb2); have HB := hide ((unhide HB).trans hb2); clear hb2)
    | (go_at_call 7; refine ((unhide HT) _ _ (unhide HP)).mono ?_; rintro e w3 ⟨st, x3, aA, cA, hst, rfl, hb3⟩; have HST := hide hst; have HR := hide (hb3.row (unhide HR)); have HP := hide ((unhide HP).bel hb3); have HB := hide ((unhide HB).trans hb3); clear hb3 hst)
    | (refine bx_new rfl 32 rfl _ Try.zero32 ?_; intro b w4 hr4 hs4 hb4; have HQ := hide (And.intro hr4 (And.intro (show W.heap.size ≤ b by have := (unhide HB).size; omega) (Nat.ne_of_lt (Nat.lt_of_lt_of_eq (lt_of_some (unhide HR)) hs4)))); have HR := hide (hb4.row (unhide HR)); have HP := hide ((unhide HP).bel hb4); have HB := hide ((unhide HB).trans hb4); clear hr4 hs4 hb4)
    | (refine bx_new rfl 32 rfl _ Try.zero32 ?_; intro b w4 hr4 hs4 hb4; have HQ := hide (And.intro hr4 (show W.heap.size ≤ b by have := (unhide HB).size; omega)); have HP := hide ((unhide HP).bel hb4); have HB := hide ((unhide HB).trans hb4); clear hr4 hs4 hb4)
    | (refine bx_st rfl 32 (.tmp 1) _ rfl b (pc 3 (pnew 1 1) x1) _ rfl rfl (unhide HQ).1 (Try.size32 _ _ _) rfl (pc_one _ _ _) ?_; intro w5 hr5 hc5; have HR := hide hr5; have HP := hide ((unhide HP).box (unhide HQ).1 hc5); have HB := hide (bel_off (unhide HB) hc5 (unhide HQ).2); clear hr5 hc5)
    | (refine bx_st rfl 32 (.tmp 3) _ rfl b (pc 0 ⟨0, 0, 0, 0, 0, 0, 0, [], [], [], 0⟩ ⟨none, 0, none, 0, none, 0, none, 0, none, 0, none, 0⟩) _ rfl rfl (unhide HQ).1 (Try.size32 _ _ _) rfl (pc_one _ _ _) ?_; intro w5 hr5 hc5; have HR := hide (hc5.row (unhide HR) (unhide HQ).2.2); have HP := hide ((unhide HP).box (unhide HQ).1 hc5); have HB := hide (bel_off (unhide HB) hc5 (unhide HQ).2.1); clear hr5 hc5)
    | (refine bx_ldH 32 (.tmp 1) (by exact rfl) _ (by exact rfl) (by exact rfl) (pc 3 (pnew 1 1) x1) _ (unhide HR) Try.underlying32 (Try.size32 _ _ _) ?_)
    | (refine bx_st rfl 32 (.tmp 5) _ rfl b (pc 3 st x3) _ rfl rfl (unhide HQ).1 (Try.size32 _ _ _) rfl (pc_one _ _ _) ?_; intro w5 hr5 hc5; have y2 := (Bx.of hr5).c2; have y4 := (Bx.of hr5).c4; have y13 := (Bx.of hr5).c13; rw [(unhide HST).1] at y2; rw [(unhide HST).2.1] at y4; rw [(unhide HST).2.2] at y13; have HB := hide (bel_off (unhide HB) hc5 (unhide HQ).2.1); clear hr5 hc5)
    | (go_at_call 15; refine ((unhide HJ) _).mono ?_; rintro e w6 ⟨rfl, hb6⟩; have HB := hide ((unhide HB).trans hb6); clear hb6)
    | go_guarded)
  go_ret
  exact ⟨rfl, unhide HB⟩
end Go.Proofs.Ythipgcojbhcdgaa
