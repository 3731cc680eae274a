/- May of any member. -/
import Derived.Test.YthekbhliokcpcaaGreatHmm
import Derived.Test.YthekbhliokcpcaaGreatNhst
namespace Go.Proofs.YthekbhliokcpcaaGreat
open Go.RowKit Go.Maps Go.Sort
/-- A member that may be. -/
def mayG (s : GP) : Bool := numB s && (logB s && (memB s && rolB s))
theorem ids_len : ∀ (l : List Int) (b : Int), aids b l = true → (l.length : Int) ≤ 64 - b ∨ l = []
  | [], _, _ => Or.inr rfl
  | x :: l, b, h => by
    unfold aids at h
    simp only [Bool.and_eq_true, Bool.not_eq_true', decide_eq_false_iff_not] at h
    obtain ⟨⟨h1, h2⟩, h3⟩ := h
    unfold idB at h2
    simp only [Bool.and_eq_true, decide_eq_true_eq] at h2
    left
    rcases ids_len l x h3 with h4 | h4
    · rw [List.length_cons]; omega
    · rw [h4]; simp; omega
theorem ids64 {l : List Int} (h : aids 0 l = true) : l.length ≤ 64 := by
  rcases ids_len l 0 h with h1 | h1
  · omega
  · rw [h1]; decide
theorem mayEs_mem {lo hi : Int} : ∀ {l : List GE}, mayEs lo hi l = true → ∀ e ∈ l, mayE e = true ∧ e.t ≠ 0 ∧ e.t ≤ hi
  | [], _, e, he => by cases he
  | y :: l, h, e, he => by
    unfold mayEs at h
    simp only [Bool.and_eq_true, Bool.not_eq_true', decide_eq_false_iff_not, beq_eq_false_iff_ne] at h
    rcases List.mem_cons.1 he with e1 | e1
    · rw [e1]; exact ⟨h.1.2, h.1.1.1.1, by omega⟩
    · exact mayEs_mem h.2 e e1
theorem mayE_ids {e : GE} (h : mayE e = true) (h2 : e.k = 2) : 0 < e.m.length ∧ aids 0 e.m = true := by
  unfold mayE at h
  rw [if_neg (by omega), if_neg (by omega), if_pos h2] at h
  simp only [Bool.and_eq_true, decide_eq_true_eq] at h
  exact h.1
theorem memOf_ids : ∀ (l : List GE) (B : List Int), (0 < B.length ∧ aids 0 B = true) → (∀ e ∈ l, mayE e = true) → 0 < (memOf B l).length ∧ aids 0 (memOf B l) = true
  | [], B, h, _ => h
  | e :: l, B, h, hl => by
    unfold memOf
    refine memOf_ids l _ ?_ (fun y hy => hl y (List.mem_cons_of_mem _ hy))
    by_cases k : e.k = 2
    · rw [if_pos k]; exact mayE_ids (hl e List.mem_cons_self) k
    · rw [if_neg k]; exact h
theorem logB_es {s : GP} (h : logB s = true) : mayEs s.baseT s.term s.log = true := by
  unfold logB at h
  simp only [Bool.and_eq_true] at h
  exact h.2.2.2.1
theorem mem_ids {s : GP} (hl : logB s = true) (h : memB s = true) : 0 < s.M.length ∧ aids 0 s.M = true := by
  unfold memB at h
  simp only [Bool.and_eq_true, decide_eq_true_eq] at h
  rw [h.2]
  exact memOf_ids _ _ h.1 (fun e he => (mayEs_mem (logB_es hl) e he).1)
theorem mem64 {s : GP} (hl : logB s = true) (h : memB s = true) : 0 < s.M.length ∧ s.M.length ≤ 64 := ⟨(mem_ids hl h).1, ids64 (mem_ids hl h).2⟩
set_option maxRecDepth 100000 in
set_option maxHeartbeats 8000000 in
theorem may_g {W : World} {s : GP} {x : Px} (h : Gp W s x) (hz : Gz s x) : Calls Tryz.prog 42 #[.agg (gc s x)] W fun e w' => e = .returned (.int .i64 (if mayG s then 0 else 2)) ∧ Bel W w' := by
  have H1 : Hid (∀ W', Calls Tryz.prog 103 #[.agg (gc s x)] W' fun e w' => e = .returned (.bool (numB s)) ∧ Bel W' w') := hide (fun W' => numbers_g)
  have hb62 : numB s = true → s.base ≤ 4611686018427387904 := fun h => by
    unfold numB at h
    simp only [Bool.and_eq_true, decide_eq_true_eq] at h
    exact h.2.2.2.2.2.1
  have H2 : Hid (numB s = true → ∀ W', Bel W W' → Calls Tryz.prog 104 #[.agg (gc s x)] W' fun e w' => e = .returned (.bool (logB s)) ∧ Bel W' w') := hide (fun hn W' hb => log_g (h.l.bel hb) hz.base.1 (hb62 hn) (by have := hz.l; omega) hz.lm)
  have H3 : Hid (∀ W', Bel W W' → Calls Tryz.prog 105 #[.agg (gc s x)] W' fun e w' => e = .returned (.bool (memB s)) ∧ Bel W' w') := hide (fun W' hb => mems_g (h.bel hb) hz.m hz.b (by have := hz.l; omega) hz.cap)
  have H4 : Hid (numB s = true → logB s = true → memB s = true → ∀ W', Bel W W' → Calls Tryz.prog 106 #[.agg (gc s x)] W' fun e w' => e = .returned (.bool (rolB s)) ∧ Bel W' w') := hide (fun hn hlg hm W' hb => by
    obtain ⟨p1, p2⟩ := mem64 hlg hm
    exact role_g (h.bel hb) hz.base.1 (hb62 hn) p1 (by omega) hz.v (by have := hz.l; omega) (by have := hz.r; omega) hz.ra)
  clear h hz hb62
  unfold mayG
  generalize rolB s = br at *
  cases q1 : numB s with
  | false =>
    rw [q1] at H1
    clear H2 H4
    rw [Bool.false_and, if_neg (by decide)]
    go_enter Tryz.func42, Tryz.ntmps42
    go_wp2_with (first
      | go_skip
      | (refine bx_boxK 31 (.tmp 0) (by exact rfl) (by exact rfl) (gc s x) (by exact rfl) ?_; intro b w0 hr0 hs0 hb0; have HR0 := hide hr0; have HB0 := hide hb0; clear hr0 hs0 hb0)
      | (refine bx_ldK 31 (.tmp 1) (by exact rfl) b (by exact rfl) (by exact rfl) (gc s x) _ (unhide HR0) Tryz.underlying31 (Tryz.sizeP s x) ?_)
      | go_guarded
      | (go_at_call 103; refine ((unhide H1) _).mono ?_; rintro e w1 ⟨rfl, hb1⟩; replace HR0 := hide (hb1.row (unhide HR0)); replace HB0 := hide ((unhide HB0).trans hb1); clear hb1)
      | (go_at_call 104; refine ((unhide H1) _ (unhide HB0)).mono ?_; rintro e w2 ⟨rfl, hb1⟩; replace HR0 := hide (hb1.row (unhide HR0)); replace HB0 := hide ((unhide HB0).trans hb1); clear hb1)
      | (go_at_call 105; refine ((unhide H3) _ (unhide HB0)).mono ?_; rintro e w3 ⟨rfl, hb1⟩; replace HR0 := hide (hb1.row (unhide HR0)); replace HB0 := hide ((unhide HB0).trans hb1); clear hb1)
      | (go_at_call 106; refine ((unhide H4) _ (unhide HB0)).mono ?_; rintro e w4 ⟨rfl, hb1⟩; replace HR0 := hide (hb1.row (unhide HR0)); replace HB0 := hide ((unhide HB0).trans hb1); clear hb1))
    go_ret
    exact ⟨rfl, unhide HB0⟩
  | true =>
    rw [q1] at H1 H2 H4
    rw [Bool.true_and]
    replace H2 := hide ((unhide H2) rfl)
    cases q2 : logB s with
    | false =>
      rw [q2] at H2
      clear H4
      rw [Bool.false_and, if_neg (by decide)]
      go_enter Tryz.func42, Tryz.ntmps42
      go_wp2_with (first
        | go_skip
        | (refine bx_boxK 31 (.tmp 0) (by exact rfl) (by exact rfl) (gc s x) (by exact rfl) ?_; intro b w0 hr0 hs0 hb0; have HR0 := hide hr0; have HB0 := hide hb0; clear hr0 hs0 hb0)
        | (refine bx_ldK 31 (.tmp 1) (by exact rfl) b (by exact rfl) (by exact rfl) (gc s x) _ (unhide HR0) Tryz.underlying31 (Tryz.sizeP s x) ?_)
        | go_guarded
        | (go_at_call 103; refine ((unhide H1) _).mono ?_; rintro e w1 ⟨rfl, hb1⟩; replace HR0 := hide (hb1.row (unhide HR0)); replace HB0 := hide ((unhide HB0).trans hb1); clear hb1)
        | (go_at_call 104; refine ((unhide H2) _ (unhide HB0)).mono ?_; rintro e w2 ⟨rfl, hb1⟩; replace HR0 := hide (hb1.row (unhide HR0)); replace HB0 := hide ((unhide HB0).trans hb1); clear hb1)
        | (go_at_call 105; refine ((unhide H3) _ (unhide HB0)).mono ?_; rintro e w3 ⟨rfl, hb1⟩; replace HR0 := hide (hb1.row (unhide HR0)); replace HB0 := hide ((unhide HB0).trans hb1); clear hb1)
        | (go_at_call 106; refine ((unhide H4) _ (unhide HB0)).mono ?_; rintro e w4 ⟨rfl, hb1⟩; replace HR0 := hide (hb1.row (unhide HR0)); replace HB0 := hide ((unhide HB0).trans hb1); clear hb1))
      go_ret
      exact ⟨rfl, unhide HB0⟩
    | true =>
      rw [q2] at H2 H4
      rw [Bool.true_and]
      cases q3 : memB s with
      | false =>
        rw [q3] at H3
        clear H4
        rw [Bool.false_and, if_neg (by decide)]
        go_enter Tryz.func42, Tryz.ntmps42
        go_wp2_with (first
          | go_skip
          | (refine bx_boxK 31 (.tmp 0) (by exact rfl) (by exact rfl) (gc s x) (by exact rfl) ?_; intro b w0 hr0 hs0 hb0; have HR0 := hide hr0; have HB0 := hide hb0; clear hr0 hs0 hb0)
          | (refine bx_ldK 31 (.tmp 1) (by exact rfl) b (by exact rfl) (by exact rfl) (gc s x) _ (unhide HR0) Tryz.underlying31 (Tryz.sizeP s x) ?_)
          | go_guarded
          | (go_at_call 103; refine ((unhide H1) _).mono ?_; rintro e w1 ⟨rfl, hb1⟩; replace HR0 := hide (hb1.row (unhide HR0)); replace HB0 := hide ((unhide HB0).trans hb1); clear hb1)
          | (go_at_call 104; refine ((unhide H2) _ (unhide HB0)).mono ?_; rintro e w2 ⟨rfl, hb1⟩; replace HR0 := hide (hb1.row (unhide HR0)); replace HB0 := hide ((unhide HB0).trans hb1); clear hb1)
          | (go_at_call 105; refine ((unhide H3) _ (unhide HB0)).mono ?_; rintro e w3 ⟨rfl, hb1⟩; replace HR0 := hide (hb1.row (unhide HR0)); replace HB0 := hide ((unhide HB0).trans hb1); clear hb1)
          | (go_at_call 106; refine ((unhide H4) _ (unhide HB0)).mono ?_; rintro e w4 ⟨rfl, hb1⟩; replace HR0 := hide (hb1.row (unhide HR0)); replace HB0 := hide ((unhide HB0).trans hb1); clear hb1))
        go_ret
        exact ⟨rfl, unhide HB0⟩
      | true =>
        rw [q3] at H3 H4
        rw [Bool.true_and]
        replace H4 := hide ((unhide H4) rfl rfl rfl)
        cases br with
        | false =>
          rw [if_neg (by decide)]
          go_enter Tryz.func42, Tryz.ntmps42
          go_wp2_with (first
            | go_skip
            | (refine bx_boxK 31 (.tmp 0) (by exact rfl) (by exact rfl) (gc s x) (by exact rfl) ?_; intro b w0 hr0 hs0 hb0; have HR0 := hide hr0; have HB0 := hide hb0; clear hr0 hs0 hb0)
            | (refine bx_ldK 31 (.tmp 1) (by exact rfl) b (by exact rfl) (by exact rfl) (gc s x) _ (unhide HR0) Tryz.underlying31 (Tryz.sizeP s x) ?_)
            | go_guarded
            | (go_at_call 103; refine ((unhide H1) _).mono ?_; rintro e w1 ⟨rfl, hb1⟩; replace HR0 := hide (hb1.row (unhide HR0)); replace HB0 := hide ((unhide HB0).trans hb1); clear hb1)
            | (go_at_call 104; refine ((unhide H2) _ (unhide HB0)).mono ?_; rintro e w2 ⟨rfl, hb1⟩; replace HR0 := hide (hb1.row (unhide HR0)); replace HB0 := hide ((unhide HB0).trans hb1); clear hb1)
            | (go_at_call 105; refine ((unhide H3) _ (unhide HB0)).mono ?_; rintro e w3 ⟨rfl, hb1⟩; replace HR0 := hide (hb1.row (unhide HR0)); replace HB0 := hide ((unhide HB0).trans hb1); clear hb1)
            | (go_at_call 106; refine ((unhide H4) _ (unhide HB0)).mono ?_; rintro e w4 ⟨rfl, hb1⟩; replace HR0 := hide (hb1.row (unhide HR0)); replace HB0 := hide ((unhide HB0).trans hb1); clear hb1))
          go_ret
          exact ⟨rfl, unhide HB0⟩
        | true =>
          rw [if_pos rfl]
          go_enter Tryz.func42, Tryz.ntmps42
          go_wp2_with (first
            | go_skip
            | (refine bx_boxK 31 (.tmp 0) (by exact rfl) (by exact rfl) (gc s x) (by exact rfl) ?_; intro b w0 hr0 hs0 hb0; have HR0 := hide hr0; have HB0 := hide hb0; clear hr0 hs0 hb0)
            | (refine bx_ldK 31 (.tmp 1) (by exact rfl) b (by exact rfl) (by exact rfl) (gc s x) _ (unhide HR0) Tryz.underlying31 (Tryz.sizeP s x) ?_)
            | go_guarded
            | (go_at_call 103; refine ((unhide H1) _).mono ?_; rintro e w1 ⟨rfl, hb1⟩; replace HR0 := hide (hb1.row (unhide HR0)); replace HB0 := hide ((unhide HB0).trans hb1); clear hb1)
            | (go_at_call 104; refine ((unhide H2) _ (unhide HB0)).mono ?_; rintro e w2 ⟨rfl, hb1⟩; replace HR0 := hide (hb1.row (unhide HR0)); replace HB0 := hide ((unhide HB0).trans hb1); clear hb1)
            | (go_at_call 105; refine ((unhide H3) _ (unhide HB0)).mono ?_; rintro e w3 ⟨rfl, hb1⟩; replace HR0 := hide (hb1.row (unhide HR0)); replace HB0 := hide ((unhide HB0).trans hb1); clear hb1)
            | (go_at_call 106; refine ((unhide H4) _ (unhide HB0)).mono ?_; rintro e w4 ⟨rfl, hb1⟩; replace HR0 := hide (hb1.row (unhide HR0)); replace HB0 := hide ((unhide HB0).trans hb1); clear hb1))
          go_ret
          exact ⟨rfl, unhide HB0⟩
end Go.Proofs.YthekbhliokcpcaaGreat
