/- Majority. -/
import Derived.Test.YthipgcojbhcdgaaOnc
namespace Go.Proofs.Ythipgcojbhcdgaa
open Go.RowKit Go.Maps Go.Sort
theorem search_any {W : World} {a : Option Addr} {cap : Nat} {M : List Int} (h : Sl E3 W a M) (hr : Ris M) (hl : M.length ≤ 1000000) (x : Int) : Calls Try.prog 33 #[.slice a M.length cap, .int .i64 x] W fun e w' => ∃ i, e = .returned (.tuple #[.int .i64 i, .bool (decide (x ∈ M))]) ∧ Bel W w' := by
  by_cases h0 : M.length = 0
  · have hM : M = [] := List.eq_nil_of_length_eq_zero h0
    subst hM
    refine (Try.slices_BinarySearch_int_empty a cap x W).mono ?_
    rintro e w' ⟨rfl, hw⟩
    exact ⟨0, by simp, by rw [hw]; exact Bel.refl _⟩
  · obtain ⟨g, off, hg, hR⟩ := h
    obtain rfl := hg h0
    refine (Try.slices_BinarySearch_int g off M.length cap M x W (Nat.le_refl _) (by omega) (fun j hj => ?_) ?_).mono ?_
    · rw [E3_cell hR j hj]; simp [List.getD, List.getElem?_eq_getElem hj]
    · rw [List.take_length]
      exact pw_to hr (fun h => by omega)
    · rintro e w' ⟨rfl, q, hw⟩
      refine ⟨(List.countP (fun y => decide (y < x)) M : Nat), ?_, by rw [hw]; exact (Bel.refl _).drewN q⟩
      rw [List.take_length, List.contains_eq_mem]
set_option maxRecDepth 100000 in
set_option maxHeartbeats 1000000 in
theorem majority_any {W : World} {a b : Option Addr} {cap cap2 : Nat} {M I M' I' : List Int} (hM : Sl E3 W a M) (hI : Sl E3 W b I) (hlM : M.length ≤ 1000000) (hlI : I.length ≤ 1000000) (rM : Ris M') (mM : ∀ x, x ∈ M' ↔ x ∈ M) (rI : Ris I') (mI : ∀ x, x ∈ I' ↔ x ∈ I) (hlM' : M'.length ≤ 1000000) (hlI' : I'.length ≤ 1000000) : Calls Try.prog 15 #[.slice a M.length cap, .slice b I.length cap2] W fun e w' => e = .returned (.bool (decide (M'.length / 2 < I'.countP (fun x => decide (x ∈ M'))))) ∧ Bel W w' := by
  have H1 : Hid (Calls Try.prog 32 #[.slice a M.length cap] W fun e w' => ∃ a' c', e = .returned (.slice a' M'.length c') ∧ Sl E3 w' a' M' ∧ Bel W w') := hide ((once_any hM hlM).mono (fun e w' ⟨a', c', l', he, ho, hr, hm, hb⟩ => by
    have e1 : l' = M' := ris_ext _ _ hr rM (fun x => (hm x).trans (mM x).symm)
    subst e1
    exact ⟨a', c', he, (Sl.of ho).1, hb⟩))
  have H2 : Hid (∀ w1, Bel W w1 → Calls Try.prog 32 #[.slice b I.length cap2] w1 fun e w' => ∃ a' c', e = .returned (.slice a' I'.length c') ∧ Sl E3 w' a' I' ∧ Bel w1 w') := hide (fun w1 hb1 => (once_any (hI.bel hb1) hlI).mono (fun e w' ⟨a', c', l', he, ho, hr, hm, hb⟩ => by
    have e1 : l' = I' := ris_ext _ _ hr rI (fun x => (hm x).trans (mI x).symm)
    subst e1
    exact ⟨a', c', he, (Sl.of ho).1, hb⟩))
  have HRM := hide (And.intro rM hlM')
  generalize hbq : decide (M'.length / 2 < I'.countP (fun x => decide (x ∈ M'))) = bq
  have HBQ := hide hbq
  clear hbq
  clear hM hI rM mM rI mI
  generalize M.length = nM at *
  generalize I.length = nI at *
  generalize hnI : I'.length = n at *
  have HNI := hide hnI
  clear hnI
  go_enter Try.func15, Try.ntmps15
  go_wp2_with (first
    | (go_at_call 32; refine (unhide H1).mono ?_; rintro e w1 ⟨a1, c1, rfl, hs1, hb1⟩; have HS1 := hide (And.intro hs1 hb1); have H3 := hide ((unhide H2) _ hb1); clear hs1 hb1 H1 H2)
    | (go_at_call 32; refine (unhide H3).mono ?_; rintro e w2 ⟨a2, c2, rfl, hs2, hb2⟩; have HS2 := hide (And.intro hs2 hb2); clear hs2 hb2 H3))
  have HM : Hid (∀ wr x, Bel w2 wr → Calls Try.prog 33 #[.slice a1 M'.length c1, .int .i64 x] wr fun e w' => ∃ i, e = .returned (.tuple #[.int .i64 i, .bool (decide (x ∈ M'))]) ∧ Bel wr w') := hide (fun wr x hb => search_any ((unhide HS1).1.bel ((unhide HS2).2.trans hb)) (unhide HRM).1 (unhide HRM).2 x)
  obtain ⟨g, off, hg, hR⟩ := (unhide HS2).1
  have HG := hide hg
  have HR := hide hR
  have HB : Hid (Bel W w2) := hide ((unhide HS1).2.trans (unhide HS2).2)
  clear hg hR
  generalize hmm : M'.length = m at *
  go_loopw [6, 16] (fun vh vk wr => ∃ (k : Nat), k ≤ n ∧ vk = .int .i64 k ∧ vh = .int .i64 ((I'.take k).countP (fun x => decide (x ∈ M'))) ∧ Hid (Bel w2 wr)) (fun _ vk _ => n - (intOf vk).toNat)
  case atStart => exact ⟨0, Nat.zero_le _, rfl, rfl, hide (Bel.refl _)⟩
  case round =>
    obtain ⟨k, hk, rfl, rfl, HBr⟩ := hrel
    have hc1 : (I'.take k).countP (fun x => decide (x ∈ M')) ≤ k := Nat.le_trans List.countP_le_length (by simp; omega)
    by_cases hlt : k < n
    · have hkl : k < I'.length := by rw [unhide HNI]; exact hlt
      obtain rfl := (unhide HG) (by rw [unhide HNI]; omega)
      have hkn : (k : Int) < n := by omega
      have r0 := (unhide HBr).cell (E3_cell (unhide HR) k hkl)
      have HD : Hid ((I'.take (k + 1)).countP (fun x => decide (x ∈ M')) = (I'.take k).countP (fun x => decide (x ∈ M')) + (if decide (I'[k] ∈ M') = true then 1 else 0)) := hide (by
        rw [List.take_add_one, List.getElem?_eq_getElem hkl, List.countP_append]
        simp [List.countP_cons])
      generalize I'[k] = x at *
      generalize (I'.take k).countP (fun x => decide (x ∈ M')) = c at *
      have HC := hide ((unhide HM) wr x (unhide HBr))
      cases hx : decide (x ∈ M') with
      | true =>
        rw [hx] at HC HD
        go_wp2_with (first
          | (go_at_call 33; refine (unhide HC).mono ?_; rintro e w3 ⟨i3, rfl, hb3⟩; have HB3 := hide ((unhide HBr).trans hb3); clear hb3))
        go_roundw
        case rel => exact ⟨k + 1, by omega, by go_num, by rw [unhide HD]; simp; try omega, HB3⟩
        case measure => simp [intOf]; omega
      | false =>
        rw [hx] at HC HD
        go_wp2_with (first
          | (go_at_call 33; refine (unhide HC).mono ?_; rintro e w3 ⟨i3, rfl, hb3⟩; have HB3 := hide ((unhide HBr).trans hb3); clear hb3))
        go_roundw
        case rel => exact ⟨k + 1, by omega, by go_num, by rw [unhide HD]; simp, HB3⟩
        case measure => simp [intOf]; omega
    · obtain rfl : k = n := by omega
      have HT : Hid (I'.take k = I') := hide (List.take_of_length_le (by rw [unhide HNI]; omega))
      rw [unhide HT] at hc1 ⊢
      generalize I'.countP (fun x => decide (x ∈ M')) = c at *
      have hc2 : (c : Int) ≤ 1000000 := by omega
      by_cases hq : m / 2 < c
      · have hq' : (m : Int) / 2 < c := by omega
        have HQ : Hid (bq = true) := hide (by rw [← unhide HBQ, decide_eq_true hq])
        clear hq
        go_wp2_with fail
        all_goals
          go_ret
          exact ⟨by rw [unhide HQ]; first | rfl | (simp; omega), (unhide HB).trans (unhide HBr)⟩
      · have hq' : ¬ ((m : Int) / 2 < c) := by omega
        have HQ : Hid (bq = false) := hide (by rw [← unhide HBQ, decide_eq_false hq])
        clear hq
        go_wp2_with fail
        all_goals
          go_ret
          exact ⟨by rw [unhide HQ]; first | rfl | (simp; omega), (unhide HB).trans (unhide HBr)⟩
end Go.Proofs.Ythipgcojbhcdgaa
