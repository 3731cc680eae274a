/- alive of the logs' law. -/
import Derived.Test.YthipgcojbhcdgaaLsm
import Derived.Test.YthipgcojbhcdgaaAli
namespace Go.Proofs.Ythipgcojbhcdgaa
open Go.RowKit Go.Maps Go.Sort
/-- A group of one, behind its first tick. -/
def s1 : PP := ⟨1, 1, 1, 2, 1, 2, 10, [noop 1], [], [], 0⟩
def q1 : PP := ⟨1, 1, 1, 2, 1, 2, 10, [noop 1], [], [], 1⟩
theorem tick_1 : (pnew 1 1).tick 1 0 = (s1, []) := by rfl
theorem adv_1 : s1.adv = q1 := by rfl
theorem most_1 (d : ByteArray) : most (q1.more d).have = 2 := by simp [most, PP.have, PP.more, PP.lastI, q1, srtD, insD]
theorem prop_1 (d : ByteArray) : (q1.prop d).commit = 2 ∧ (q1.prop d).log.length = 2 := by
  unfold PP.prop PP.adv
  rw [most_1]
  constructor
  · show (if tAt [noop 1, ⟨1, 0, d⟩] 2 = 1 then max 1 2 else 1) = 2
    rw [if_pos (by simp [tAt])]
    rfl
  · rfl
theorem lg_1 : Lg 1 [noop 1] := ⟨by simp, fun x hx => by
  rw [List.mem_singleton.1 hx]; exact ⟨⟨by decide, by decide⟩, Or.inr ⟨rfl, rfl⟩⟩⟩
theorem ok_s1 : Ok 1 1 1 s1 := ⟨by decide, by decide, by decide, by decide, by decide, by decide, by decide, by decide, lg_1, by decide, by decide, List.Pairwise.nil, (fun x hx => by cases hx), Or.inr (Or.inr ⟨rfl, rfl, by decide, rfl, by decide, by decide, (fun f hf => by cases hf)⟩)⟩
theorem ok_q1 : Ok 1 1 1 q1 := ⟨by decide, by decide, by decide, by decide, by decide, by decide, by decide, by decide, lg_1, by decide, by decide, List.Pairwise.nil, (fun x hx => by cases hx), Or.inr (Or.inr ⟨rfl, rfl, by decide, rfl, by decide, by decide, (fun f hf => by cases hf)⟩)⟩
theorem Pf.low {base : Nat} {W : World} {n : Nat} {s : PP} {x : Px} (hf : Pf base W n s x) : Pf 0 W n s x := ⟨hf.m.mono (Nat.zero_le _), hf.b.mono (Nat.zero_le _), hf.l.mono (Nat.zero_le _), hf.v.mono (Nat.zero_le _), hf.f.mono (Nat.zero_le _), hf.dv⟩
theorem new_1 (W' : World) : Calls Try.prog 6 #[.int .i64 1, .int .i64 1, .slice (some ⟨W'.heap.size, 0, none⟩) 1 1] (W'.alloc (.cells #[.int .i64 1] 3)) fun e w' => ∃ x', e = .returned (.tuple #[.agg (pc 1 (pnew 1 1) x'), .int .i64 0]) ∧ Pf 0 w' 1 (pnew 1 1) x' ∧ Bel W' w' :=
  (new_any (n := 1) (id := 1) (wait := 1) (sl_new3 W' [1]) (by decide) (by decide) (by decide)).mono (fun _ _ ⟨x', he, hf, hb⟩ => ⟨x', he, hf.low, ((Bel.refl W').alloc _).trans hb⟩)
theorem ltick_1 (W' : World) (x' : Px) (hp : Pf 0 W' 1 (pnew 1 1) x') : Calls Try.prog 11 #[.agg (pc 1 (pnew 1 1) x'), .int .i64 0] W' fun e w' => ∃ x2 aA cA, e = .returned (.tuple #[.agg (pc 1 q1 x2), .slice aA 0 cA, .int .i64 0]) ∧ Pf 0 w' 1 q1 x2 ∧ Bel W' w' := by
  have := ltick_win hp.pq (pnew_ok (n := 1) (id := 1) (wait := 1) (by decide) (by decide)) (by decide) (by decide) (by decide) 0 (by decide) (by decide) tick_1 ok_s1 (by decide) rfl
  rw [adv_1] at this
  exact this.mono (fun _ _ ⟨x2, aA, cA, he, hf, hb⟩ => ⟨x2, aA, cA, he, hf.low, hb⟩)
theorem prop_q (W' : World) (x' : Px) (d : ByteArray) (hd : d.size ≤ 1048576) (hp : Pf 0 W' 1 q1 x') : Calls Try.prog 12 #[.agg (pc 1 q1 x'), .string d] W' fun e w' => ∃ x2, e = .returned (.tuple #[.agg (pc 1 (q1.prop d) x2), .int .u64 2, .int .i64 0]) ∧ Bel W' w' :=
  (prop_any hp.pq ok_q1 (by decide) (by decide) (by decide) d rfl hd).mono (fun _ _ ⟨x2, he, _, hb⟩ => ⟨x2, he, hb⟩)
theorem prop_p (W' : World) (x' : Px) (d : ByteArray) (hp : Pf 0 W' 1 (pnew 1 1) x') : Calls Try.prog 12 #[.agg (pc 1 (pnew 1 1) x'), .string d] W' fun e w' => e = .returned (.tuple #[.agg (pc 0 p0 x0), .int .u64 0, .int .i64 140]) ∧ Bel W' w' :=
  prop_lead hp.pq (pnew_ok (n := 1) (id := 1) (wait := 1) (by decide) (by decide)) (by decide) (by decide) (by decide) d (by decide)
theorem prop_z (W' : World) (x' : Px) (d : ByteArray) (hd : 1048576 < d.size) (hp : Pf 0 W' 1 q1 x') : Calls Try.prog 12 #[.agg (pc 1 q1 x'), .string d] W' fun e w' => e = .returned (.tuple #[.agg (pc 0 p0 x0), .int .u64 0, .int .i64 4]) ∧ Bel W' w' :=
  prop_long hp.pq ok_q1 (by decide) (by decide) (by decide) d rfl hd
set_option maxRecDepth 100000 in
set_option maxHeartbeats 4000000 in
theorem alive_l {W : World} : Calls Try.prog 14 #[] W fun e w' => e = .returned (.bool true) ∧ Bel W w' := by
  have HN := hide new_1
  have HT := hide ltick_1
  have HPQ := hide (fun W' x' => prop_q W' x' ⟨#[120]⟩ (by decide))
  have HPP := hide (fun W' x' => prop_p W' x' ⟨#[120]⟩)
  obtain ⟨r1, hr1⟩ : ∃ r1, r1 = q1.prop ⟨#[120]⟩ := ⟨_, rfl⟩
  rw [← hr1] at HPQ
  have HC : Hid (r1.commit = 2) := hide (by rw [hr1]; exact (prop_1 _).1)
  clear hr1
  go_enter Try.func14, Try.ntmps14
  go_wp2_with (first
    | go_skip
    | go_guarded
    | (go_at_call 6; refine ((unhide HN) _).mono ?_; rintro e w1 ⟨x1, rfl, hp1, hb1⟩; have HP := hide hp1; have HB := hide hb1; clear hp1 hb1)
    | (refine bx_new rfl 32 rfl _ Try.zero32 ?_; intro b w4 hr4 hs4 hb4; have HQ := hide (And.intro hr4 (And.intro hs4 hb4)); clear hr4 hs4 hb4)
    | (refine bx_st rfl 32 (.tmp 1) _ rfl b (pc 1 (pnew 1 1) x1) _ rfl rfl (unhide HQ).1 (Try.size32 _ _ _) rfl (pc_one _ _ _) ?_; intro w5 hr5 hc5; have hbb := bel_off (unhide HQ).2.2 hc5 (Nat.le_of_eq (unhide HQ).2.1); have HR1 := hide hr5; have HP := hide ((unhide HP).bel hbb); have HB := hide ((unhide HB).trans hbb); clear hr5 hc5 hbb)
    | (refine bx_ldH 32 (.tmp 1) (by exact rfl) _ (by exact rfl) (by exact rfl) (pc 1 (pnew 1 1) x1) _ (unhide HR1) Try.underlying32 (Try.size32 _ _ _) ?_)
    | (go_at_call 11; refine ((unhide HT) _ _ (unhide HP)).mono ?_; rintro e w2 ⟨x2, aA, cA, rfl, hp2, hb2⟩; have HP2 := hide hp2; have HR1 := hide (hb2.row (unhide HR1)); have HP := hide ((unhide HP).bel hb2); have HB := hide ((unhide HB).trans hb2); clear hp2 hb2)
    | (refine bx_st rfl 32 (.tmp 3) _ rfl b (pc 1 q1 x2) _ rfl rfl (unhide HQ).1 (Try.size32 _ _ _) rfl (pc_one _ _ _) ?_; intro w5 hr5 hc5; have hbb := bel_off (unhide HQ).2.2 hc5 (Nat.le_of_eq (unhide HQ).2.1); have HR3 := hide hr5; have HR1 := hide (hbb.row (unhide HR1)); have HP2 := hide ((unhide HP2).bel hbb); have HP := hide ((unhide HP).bel hbb); have HB := hide ((unhide HB).trans hbb); clear hr5 hc5 hbb)
    | (refine bx_ldH 32 (.tmp 3) (by exact rfl) _ (by exact rfl) (by exact rfl) (pc 1 q1 x2) _ (unhide HR3) Try.underlying32 (Try.size32 _ _ _) ?_)
    | (go_at_call 12; refine ((unhide HPQ) _ _ (unhide HP2)).mono ?_; rintro e w3 ⟨x3, rfl, hb3⟩; have HR3 := hide (hb3.row (unhide HR3)); have HR1 := hide (hb3.row (unhide HR1)); have HP := hide ((unhide HP).bel hb3); have HB := hide ((unhide HB).trans hb3); clear hb3 HPQ)
    | (refine bx_st rfl 32 (.tmp 6) _ rfl b (pc 1 r1 x3) _ rfl rfl (unhide HQ).1 (Try.size32 _ _ _) rfl (pc_one _ _ _) ?_; intro w5 hr5 hc5; have hbb := bel_off (unhide HQ).2.2 hc5 (Nat.le_of_eq (unhide HQ).2.1); have HR6 := hide hr5; have HR3 := hide (hbb.row (unhide HR3)); have HR1 := hide (hbb.row (unhide HR1)); have HP := hide ((unhide HP).bel hbb); have HB := hide ((unhide HB).trans hbb); clear hr5 hc5 hbb)
    | (go_at_call 12; refine ((unhide HPP) _ _ (unhide HP)).mono ?_; rintro e w7 ⟨rfl, hb7⟩; have HR6 := hide (hb7.row (unhide HR6)); have HR3 := hide (hb7.row (unhide HR3)); have HB := hide ((unhide HB).trans hb7); clear hb7)
    | (refine bx_st rfl 32 (.tmp 9) _ rfl b (pc 0 p0 x0) _ rfl rfl (unhide HQ).1 (Try.size32 _ _ _) rfl (pc_one _ _ _) ?_; intro w5 hr5 hc5; have hbb := bel_off (unhide HQ).2.2 hc5 (Nat.le_of_eq (unhide HQ).2.1); have y4 := (Bx.of (hbb.row (unhide HR3))).c4; have y11 := (Bx.of (hbb.row (unhide HR6))).c11; rw [unhide HC] at y11; have HB := hide ((unhide HB).trans hbb); clear hr5 hc5 hbb))
  go_ret
  exact ⟨rfl, unhide HB⟩
end Go.Proofs.Ythipgcojbhcdgaa
