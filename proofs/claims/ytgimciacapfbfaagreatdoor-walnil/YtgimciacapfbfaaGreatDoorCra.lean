/- What is synced, what a crash leaves: the program's tear, Sync, Crash. -/
import Derived.Test.YtgimciacapfbfaaGreatDoorCop
namespace Go.Proofs.YtgimciacapfbfaaGreatDoor
open Go.RowKit Go.Maps Go.WideMaps
/-- Files behind a thing with the first n of its bytes. -/
def torn5 (l : Fs) (o : Op5) (m : Nat) : Fs := if m = 0 then l else run5 l (with5 o ((txt5 o).take m))
set_option maxRecDepth 100000 in
set_option maxHeartbeats 1000000 in
theorem tear_any (w : World) (B : Nat → Prop) (f : Value) (o : Op5) (n : Nat) (l : Fs) (b : Nat) (C : Nat) (hf : Clo w B f o) (hltB : ∀ i, B i → i < w.heap.size) (hM : Mp w b l) (hF : Fine C l) (hk : ok5 l o) (hC : C + (txt5 o).length ≤ 1099511627776) (hn : n < 9223372036854775808) :
    Calls Tryz.prog 31 #[.agg #[.string ⟨(txt5 o).toArray⟩, f], .map (some b), .int .i64 n] w fun e w' => e = .returned (.tuple #[]) ∧ Mp w' b (torn5 l o (min n (txt5 o).length)) ∧ Ch (fun i => i = b) w w' := by
  have hfu := Tryz.follows
  obtain ⟨w1, hw1⟩ : ∃ w1, w1 = (w.alloc (.cells #[.string ⟨(txt5 o).toArray⟩, f] 63)).drew := ⟨_, rfl⟩
  have hb1 : Bel w w1 := by rw [hw1]; exact ((Bel.refl w).alloc _).drew
  obtain ⟨m, hm⟩ : ∃ m, min n (txt5 o).length = m := ⟨_, rfl⟩
  have hml : m ≤ (txt5 o).length := by omega
  obtain ⟨fn, cap, rfl, hen, hcall⟩ := clo_any w1 B f o ((txt5 o).take m) l b C (hf.at (fun i hi => ⟨hi, hb1.block i (hltB i hi)⟩)) (hM.bel hb1) hF hk (by rw [List.length_take]; omega)
  rw [← ext_str] at hcall
  have HC := hide hcall
  have hen' : ∀ (args : Array Value) (W : World), (callFunc fn args).run Tryz.prog W = .ok (.enter fn args) W := hen
  rw [hm]
  have HM := hide hM
  have HW := hide hw1
  have Hm := hide hm
  clear hf hltB hM hF hk hcall hen hw1 hm
  obtain ⟨k, hk⟩ : ∃ k, (txt5 o).length = k := ⟨_, rfl⟩
  rw [hk] at Hm
  rcases Nat.lt_trichotomy n k with hlt | rfl | hgt
  · obtain rfl : n = m := by have := unhide Hm; omega
    have hz : n ≤ k := Nat.le_of_lt hlt
    rcases Nat.eq_zero_or_pos n with rfl | hpos
    · go_enter Tryz.func31, Tryz.ntmps31
      go_wp2_with fail
      go_end0
      exact ⟨rfl, (unhide HM).bel ((Bel.refl w).alloc _), (Ch.refl _ w).alloc _⟩
    · go_enter Tryz.func31, Tryz.ntmps31
      go_wp2_with fail
      refine wp_region_still_tail 7 hfu (by kernel_rfl) ?_
      change wpStill _ _ (World.drew _) (fun a' => wpList _ _ _ _ a' (World.drew _)) _ _
      simp only [List.take_succ_cons, List.take_zero, List.drop_succ_cons, List.drop_zero]
      repeat still_step
      refine wpStill_nil ?_
      go_wp2_with (first | (rw [← (unhide HW)]; refine (unhide HC).mono ?_; rintro e w2 ⟨rfl, h3, h4⟩))
      go_end0
      exact ⟨rfl, by unfold torn5; rw [if_neg (by omega)]; exact h3, (hb1.ch _).trans h4 (fun i hi => Or.inl hi)⟩
  · obtain rfl : n = m := by have := unhide Hm; omega
    rcases Nat.eq_zero_or_pos n with rfl | hpos
    · go_enter Tryz.func31, Tryz.ntmps31
      go_wp2_with fail
      go_end0
      exact ⟨rfl, (unhide HM).bel ((Bel.refl w).alloc _), (Ch.refl _ w).alloc _⟩
    · go_enter Tryz.func31, Tryz.ntmps31
      go_wp2_with fail
      refine wp_region_still_tail 7 hfu (by kernel_rfl) ?_
      change wpStill _ _ (World.drew _) (fun a' => wpList _ _ _ _ a' (World.drew _)) _ _
      simp only [List.take_succ_cons, List.take_zero, List.drop_succ_cons, List.drop_zero]
      repeat still_step
      refine wpStill_nil ?_
      go_wp2_with (first | (rw [← (unhide HW)]; refine (unhide HC).mono ?_; rintro e w2 ⟨rfl, h3, h4⟩))
      go_end0
      exact ⟨rfl, by unfold torn5; rw [if_neg (by omega)]; exact h3, (hb1.ch _).trans h4 (fun i hi => Or.inl hi)⟩
  · obtain rfl : k = m := by have := unhide Hm; omega
    rcases Nat.eq_zero_or_pos k with rfl | hpos
    · go_enter Tryz.func31, Tryz.ntmps31
      go_wp2_with fail
      go_end0
      exact ⟨rfl, (unhide HM).bel ((Bel.refl w).alloc _), (Ch.refl _ w).alloc _⟩
    · go_enter Tryz.func31, Tryz.ntmps31
      go_wp2_with fail
      refine wp_region_still_tail 7 hfu (by kernel_rfl) ?_
      change wpStill _ _ (World.drew _) (fun a' => wpList _ _ _ _ a' (World.drew _)) _ _
      simp only [List.take_succ_cons, List.take_zero, List.drop_succ_cons, List.drop_zero]
      repeat still_step
      refine wpStill_nil ?_
      go_wp2_with (first | (rw [← (unhide HW)]; refine (unhide HC).mono ?_; rintro e w2 ⟨rfl, h3, h4⟩))
      go_end0
      exact ⟨rfl, by unfold torn5; rw [if_neg (by omega)]; exact h3, (hb1.ch _).trans h4 (fun i hi => Or.inl hi)⟩
end Go.Proofs.YtgimciacapfbfaaGreatDoor
