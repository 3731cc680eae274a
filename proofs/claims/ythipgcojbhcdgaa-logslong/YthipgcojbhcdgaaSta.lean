/- standDown. -/
import Derived.Test.YthipgcojbhcdgaaFld
namespace Go.Proofs.Ythipgcojbhcdgaa
open Go.RowKit Go.Maps Go.Sort
/-- What standing down leaves of where lists lie. -/
def dnX (x : Px) : Px := { x with aV := none, cV := 0, aF := none, cF := 0, aR := none, cR := 0 }
set_option maxRecDepth 100000 in
set_option maxHeartbeats 1000000 in
theorem standDown_any {W : World} {n : Nat} {s : PP} {x : Px} (t : Int) : Calls Try.prog 21 #[.agg (pc n s x), .int .u64 t] W fun e w' => e = .returned (.agg (pc n (s.down t) (dnX x))) ∧ Bel W w' := by
  by_cases hr : s.role = 2
  · have e1 : (s.role == 2) = true := by simp [hr]
    by_cases ht : s.term < t
    · have ht' := ht
      have HD : Hid (s.down t = { s with role := 0, votes := [], fol := [], lead := 0, term := t, vote := 0 }) := hide (by unfold PP.down; first | (simp [ht]; done) | simp [ht, hr])
      go_enter Try.func21, Try.ntmps21
      go_wp2_with (first
        | (refine bx_box rfl 32 _ rfl (pc n s x) rfl ?_; intro b w0 hr0 hs0 hb0; have HR0 := hide hr0; have HB0 := hide (And.intro hb0 (Nat.le_of_eq hs0)); clear hr0 hs0 hb0)
        | (refine bx_new rfl 32 rfl _ Try.zero32 ?_; intro b2 w1 hr1 hs1 hb1; have HR1 := hide (And.intro hr1 hs1); have y4 := (Bx.of (hb1.row (unhide HR0))).c4; have y2 := (Bx.of (hb1.row (unhide HR0))).c2; have HZ : Hid (w1.heap[b]? = some (.cells (pc n s x) 32) ∧ Ch (fun k => k = b) w1 w1) := hide ⟨hb1.row (unhide HR0), Ch.refl _ _⟩; have HB1 := hide (And.intro ((unhide HB0).1.trans hb1) (Nat.le_trans (unhide HB0).1.size (Nat.le_of_eq hs1))); have HNE : Hid (b2 ≠ b) := hide (fun e => by have := lt_of_some (unhide HR0); omega); clear hr1 hs1 hb1)
        | (refine fl_term rfl _ _ rfl b _ rfl rfl (unhide HZ).1 ?_; intro w3 hr3 hc3; have y2' := (Bx.of hr3).c2; replace HZ := hide (And.intro hr3 ((unhide HZ).2.trans1 hc3)); clear hr3 hc3)
        | (refine fl_vote rfl _ _ rfl b _ rfl rfl (unhide HZ).1 ?_; intro w3 hr3 hc3; have y2' := (Bx.of hr3).c2; replace HZ := hide (And.intro hr3 ((unhide HZ).2.trans1 hc3)); clear hr3 hc3)
        | (refine fl_role rfl _ _ rfl b _ rfl rfl (unhide HZ).1 ?_; intro w3 hr3 hc3; have y2' := (Bx.of hr3).c2; replace HZ := hide (And.intro hr3 ((unhide HZ).2.trans1 hc3)); clear hr3 hc3)
        | (refine fl_lead rfl _ _ rfl b _ rfl rfl (unhide HZ).1 ?_; intro w3 hr3 hc3; have y2' := (Bx.of hr3).c2; replace HZ := hide (And.intro hr3 ((unhide HZ).2.trans1 hc3)); clear hr3 hc3)
        | (refine fl_votes rfl _ _ rfl b none [] 0 rfl rfl (unhide HZ).1 ?_; intro w3 hr3 hc3; have y2' := (Bx.of hr3).c2; replace HZ := hide (And.intro hr3 ((unhide HZ).2.trans1 hc3)); clear hr3 hc3)
        | (refine fl_fol rfl _ _ rfl b none [] 0 rfl rfl (unhide HZ).1 ?_; intro w3 hr3 hc3; have y2' := (Bx.of hr3).c2; replace HZ := hide (And.intro hr3 ((unhide HZ).2.trans1 hc3)); clear hr3 hc3)
        | (refine fl_reads rfl _ _ rfl b none 0 rfl rfl (unhide HZ).1 ?_; intro w3 hr3 hc3; have y2' := (Bx.of hr3).c2; replace HZ := hide (And.intro hr3 ((unhide HZ).2.trans1 hc3)); clear hr3 hc3)
        | (refine bx_ldG rfl 32 _ rfl b rfl _ _ (unhide HZ).1 Try.underlying32 (Try.size32 _ _ _) ?_)
        | (refine bx_st rfl 32 _ _ rfl b2 _ _ rfl rfl ((unhide HZ).2.row (unhide HR1).1 (unhide HNE)) (Try.size32 _ _ _) rfl (pc_one _ _ _) ?_; intro w9 hr9 hc9; have HR9 := hide (And.intro hr9 hc9); clear hr9 hc9))
      refine bodyPost_ret (res1 (p := 4) rfl Try.underlying32 (Try.size32 _ _ _) (unhide HR9).1 _ rfl) rfl ⟨?_, bel_off (bel_off (unhide HB1).1 (unhide HZ).2 (unhide HB0).2) (unhide HR9).2 (unhide HB1).2⟩
      rw [unhide HD]
      rfl
    · have ht' := ht
      have HD : Hid (s.down t = { s with role := 0, votes := [], fol := [], lead := 0, term := s.term, vote := s.vote }) := hide (by unfold PP.down; first | (simp [ht]; done) | simp [ht, hr])
      go_enter Try.func21, Try.ntmps21
      go_wp2_with (first
        | (refine bx_box rfl 32 _ rfl (pc n s x) rfl ?_; intro b w0 hr0 hs0 hb0; have HR0 := hide hr0; have HB0 := hide (And.intro hb0 (Nat.le_of_eq hs0)); clear hr0 hs0 hb0)
        | (refine bx_new rfl 32 rfl _ Try.zero32 ?_; intro b2 w1 hr1 hs1 hb1; have HR1 := hide (And.intro hr1 hs1); have y4 := (Bx.of (hb1.row (unhide HR0))).c4; have y2 := (Bx.of (hb1.row (unhide HR0))).c2; have HZ : Hid (w1.heap[b]? = some (.cells (pc n s x) 32) ∧ Ch (fun k => k = b) w1 w1) := hide ⟨hb1.row (unhide HR0), Ch.refl _ _⟩; have HB1 := hide (And.intro ((unhide HB0).1.trans hb1) (Nat.le_trans (unhide HB0).1.size (Nat.le_of_eq hs1))); have HNE : Hid (b2 ≠ b) := hide (fun e => by have := lt_of_some (unhide HR0); omega); clear hr1 hs1 hb1)
        | (refine fl_term rfl _ _ rfl b _ rfl rfl (unhide HZ).1 ?_; intro w3 hr3 hc3; have y2' := (Bx.of hr3).c2; replace HZ := hide (And.intro hr3 ((unhide HZ).2.trans1 hc3)); clear hr3 hc3)
        | (refine fl_vote rfl _ _ rfl b _ rfl rfl (unhide HZ).1 ?_; intro w3 hr3 hc3; have y2' := (Bx.of hr3).c2; replace HZ := hide (And.intro hr3 ((unhide HZ).2.trans1 hc3)); clear hr3 hc3)
        | (refine fl_role rfl _ _ rfl b _ rfl rfl (unhide HZ).1 ?_; intro w3 hr3 hc3; have y2' := (Bx.of hr3).c2; replace HZ := hide (And.intro hr3 ((unhide HZ).2.trans1 hc3)); clear hr3 hc3)
        | (refine fl_lead rfl _ _ rfl b _ rfl rfl (unhide HZ).1 ?_; intro w3 hr3 hc3; have y2' := (Bx.of hr3).c2; replace HZ := hide (And.intro hr3 ((unhide HZ).2.trans1 hc3)); clear hr3 hc3)
        | (refine fl_votes rfl _ _ rfl b none [] 0 rfl rfl (unhide HZ).1 ?_; intro w3 hr3 hc3; have y2' := (Bx.of hr3).c2; replace HZ := hide (And.intro hr3 ((unhide HZ).2.trans1 hc3)); clear hr3 hc3)
        | (refine fl_fol rfl _ _ rfl b none [] 0 rfl rfl (unhide HZ).1 ?_; intro w3 hr3 hc3; have y2' := (Bx.of hr3).c2; replace HZ := hide (And.intro hr3 ((unhide HZ).2.trans1 hc3)); clear hr3 hc3)
        | (refine fl_reads rfl _ _ rfl b none 0 rfl rfl (unhide HZ).1 ?_; intro w3 hr3 hc3; have y2' := (Bx.of hr3).c2; replace HZ := hide (And.intro hr3 ((unhide HZ).2.trans1 hc3)); clear hr3 hc3)
        | (refine bx_ldG rfl 32 _ rfl b rfl _ _ (unhide HZ).1 Try.underlying32 (Try.size32 _ _ _) ?_)
        | (refine bx_st rfl 32 _ _ rfl b2 _ _ rfl rfl ((unhide HZ).2.row (unhide HR1).1 (unhide HNE)) (Try.size32 _ _ _) rfl (pc_one _ _ _) ?_; intro w9 hr9 hc9; have HR9 := hide (And.intro hr9 hc9); clear hr9 hc9))
      refine bodyPost_ret (res1 (p := 4) rfl Try.underlying32 (Try.size32 _ _ _) (unhide HR9).1 _ rfl) rfl ⟨?_, bel_off (bel_off (unhide HB1).1 (unhide HZ).2 (unhide HB0).2) (unhide HR9).2 (unhide HB1).2⟩
      rw [unhide HD]
      rfl
  · have e1 : (s.role == 2) = false := by simp [hr]
    by_cases ht : s.term < t
    · have ht' := ht
      have HD : Hid (s.down t = { s with role := 0, votes := [], fol := [], lead := 0, term := t, vote := 0 }) := hide (by unfold PP.down; first | (simp [ht]; done) | simp [ht, hr])
      go_enter Try.func21, Try.ntmps21
      go_wp2_with (first
        | (refine bx_box rfl 32 _ rfl (pc n s x) rfl ?_; intro b w0 hr0 hs0 hb0; have HR0 := hide hr0; have HB0 := hide (And.intro hb0 (Nat.le_of_eq hs0)); clear hr0 hs0 hb0)
        | (refine bx_new rfl 32 rfl _ Try.zero32 ?_; intro b2 w1 hr1 hs1 hb1; have HR1 := hide (And.intro hr1 hs1); have y4 := (Bx.of (hb1.row (unhide HR0))).c4; have y2 := (Bx.of (hb1.row (unhide HR0))).c2; have HZ : Hid (w1.heap[b]? = some (.cells (pc n s x) 32) ∧ Ch (fun k => k = b) w1 w1) := hide ⟨hb1.row (unhide HR0), Ch.refl _ _⟩; have HB1 := hide (And.intro ((unhide HB0).1.trans hb1) (Nat.le_trans (unhide HB0).1.size (Nat.le_of_eq hs1))); have HNE : Hid (b2 ≠ b) := hide (fun e => by have := lt_of_some (unhide HR0); omega); clear hr1 hs1 hb1)
        | (refine fl_term rfl _ _ rfl b _ rfl rfl (unhide HZ).1 ?_; intro w3 hr3 hc3; have y2' := (Bx.of hr3).c2; replace HZ := hide (And.intro hr3 ((unhide HZ).2.trans1 hc3)); clear hr3 hc3)
        | (refine fl_vote rfl _ _ rfl b _ rfl rfl (unhide HZ).1 ?_; intro w3 hr3 hc3; have y2' := (Bx.of hr3).c2; replace HZ := hide (And.intro hr3 ((unhide HZ).2.trans1 hc3)); clear hr3 hc3)
        | (refine fl_role rfl _ _ rfl b _ rfl rfl (unhide HZ).1 ?_; intro w3 hr3 hc3; have y2' := (Bx.of hr3).c2; replace HZ := hide (And.intro hr3 ((unhide HZ).2.trans1 hc3)); clear hr3 hc3)
        | (refine fl_lead rfl _ _ rfl b _ rfl rfl (unhide HZ).1 ?_; intro w3 hr3 hc3; have y2' := (Bx.of hr3).c2; replace HZ := hide (And.intro hr3 ((unhide HZ).2.trans1 hc3)); clear hr3 hc3)
        | (refine fl_votes rfl _ _ rfl b none [] 0 rfl rfl (unhide HZ).1 ?_; intro w3 hr3 hc3; have y2' := (Bx.of hr3).c2; replace HZ := hide (And.intro hr3 ((unhide HZ).2.trans1 hc3)); clear hr3 hc3)
        | (refine fl_fol rfl _ _ rfl b none [] 0 rfl rfl (unhide HZ).1 ?_; intro w3 hr3 hc3; have y2' := (Bx.of hr3).c2; replace HZ := hide (And.intro hr3 ((unhide HZ).2.trans1 hc3)); clear hr3 hc3)
        | (refine fl_reads rfl _ _ rfl b none 0 rfl rfl (unhide HZ).1 ?_; intro w3 hr3 hc3; have y2' := (Bx.of hr3).c2; replace HZ := hide (And.intro hr3 ((unhide HZ).2.trans1 hc3)); clear hr3 hc3)
        | (refine bx_ldG rfl 32 _ rfl b rfl _ _ (unhide HZ).1 Try.underlying32 (Try.size32 _ _ _) ?_)
        | (refine bx_st rfl 32 _ _ rfl b2 _ _ rfl rfl ((unhide HZ).2.row (unhide HR1).1 (unhide HNE)) (Try.size32 _ _ _) rfl (pc_one _ _ _) ?_; intro w9 hr9 hc9; have HR9 := hide (And.intro hr9 hc9); clear hr9 hc9))
      refine bodyPost_ret (res1 (p := 4) rfl Try.underlying32 (Try.size32 _ _ _) (unhide HR9).1 _ rfl) rfl ⟨?_, bel_off (bel_off (unhide HB1).1 (unhide HZ).2 (unhide HB0).2) (unhide HR9).2 (unhide HB1).2⟩
      rw [unhide HD]
      rfl
    · have ht' := ht
      have HD : Hid (s.down t = { s with role := 0, votes := [], fol := [], lead := s.lead, term := s.term, vote := s.vote }) := hide (by unfold PP.down; first | (simp [ht]; done) | simp [ht, hr])
      go_enter Try.func21, Try.ntmps21
      go_wp2_with (first
        | (refine bx_box rfl 32 _ rfl (pc n s x) rfl ?_; intro b w0 hr0 hs0 hb0; have HR0 := hide hr0; have HB0 := hide (And.intro hb0 (Nat.le_of_eq hs0)); clear hr0 hs0 hb0)
        | (refine bx_new rfl 32 rfl _ Try.zero32 ?_; intro b2 w1 hr1 hs1 hb1; have HR1 := hide (And.intro hr1 hs1); have y4 := (Bx.of (hb1.row (unhide HR0))).c4; have y2 := (Bx.of (hb1.row (unhide HR0))).c2; have HZ : Hid (w1.heap[b]? = some (.cells (pc n s x) 32) ∧ Ch (fun k => k = b) w1 w1) := hide ⟨hb1.row (unhide HR0), Ch.refl _ _⟩; have HB1 := hide (And.intro ((unhide HB0).1.trans hb1) (Nat.le_trans (unhide HB0).1.size (Nat.le_of_eq hs1))); have HNE : Hid (b2 ≠ b) := hide (fun e => by have := lt_of_some (unhide HR0); omega); clear hr1 hs1 hb1)
        | (refine fl_term rfl _ _ rfl b _ rfl rfl (unhide HZ).1 ?_; intro w3 hr3 hc3; have y2' := (Bx.of hr3).c2; replace HZ := hide (And.intro hr3 ((unhide HZ).2.trans1 hc3)); clear hr3 hc3)
        | (refine fl_vote rfl _ _ rfl b _ rfl rfl (unhide HZ).1 ?_; intro w3 hr3 hc3; have y2' := (Bx.of hr3).c2; replace HZ := hide (And.intro hr3 ((unhide HZ).2.trans1 hc3)); clear hr3 hc3)
        | (refine fl_role rfl _ _ rfl b _ rfl rfl (unhide HZ).1 ?_; intro w3 hr3 hc3; have y2' := (Bx.of hr3).c2; replace HZ := hide (And.intro hr3 ((unhide HZ).2.trans1 hc3)); clear hr3 hc3)
        | (refine fl_lead rfl _ _ rfl b _ rfl rfl (unhide HZ).1 ?_; intro w3 hr3 hc3; have y2' := (Bx.of hr3).c2; replace HZ := hide (And.intro hr3 ((unhide HZ).2.trans1 hc3)); clear hr3 hc3)
        | (refine fl_votes rfl _ _ rfl b none [] 0 rfl rfl (unhide HZ).1 ?_; intro w3 hr3 hc3; have y2' := (Bx.of hr3).c2; replace HZ := hide (And.intro hr3 ((unhide HZ).2.trans1 hc3)); clear hr3 hc3)
        | (refine fl_fol rfl _ _ rfl b none [] 0 rfl rfl (unhide HZ).1 ?_; intro w3 hr3 hc3; have y2' := (Bx.of hr3).c2; replace HZ := hide (And.intro hr3 ((unhide HZ).2.trans1 hc3)); clear hr3 hc3)
        | (refine fl_reads rfl _ _ rfl b none 0 rfl rfl (unhide HZ).1 ?_; intro w3 hr3 hc3; have y2' := (Bx.of hr3).c2; replace HZ := hide (And.intro hr3 ((unhide HZ).2.trans1 hc3)); clear hr3 hc3)
        | (refine bx_ldG rfl 32 _ rfl b rfl _ _ (unhide HZ).1 Try.underlying32 (Try.size32 _ _ _) ?_)
        | (refine bx_st rfl 32 _ _ rfl b2 _ _ rfl rfl ((unhide HZ).2.row (unhide HR1).1 (unhide HNE)) (Try.size32 _ _ _) rfl (pc_one _ _ _) ?_; intro w9 hr9 hc9; have HR9 := hide (And.intro hr9 hc9); clear hr9 hc9))
      refine bodyPost_ret (res1 (p := 4) rfl Try.underlying32 (Try.size32 _ _ _) (unhide HR9).1 _ rfl) rfl ⟨?_, bel_off (bel_off (unhide HB1).1 (unhide HZ).2 (unhide HB0).2) (unhide HR9).2 (unhide HB1).2⟩
      rw [unhide HD]
      rfl
end Go.Proofs.Ythipgcojbhcdgaa
