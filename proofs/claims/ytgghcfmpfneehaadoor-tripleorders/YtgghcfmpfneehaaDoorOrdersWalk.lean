/- The law TripleOrders answers true: for every two triples. -/
import Derived.Test.YtgghcfmpfneehaaDoorTriN
import Derived.Test.YtgghcfmpfneehaaDoorTriG
namespace Go.Proofs.YtgghcfmpfneehaaDoor
open Go.RowKit
set_option maxHeartbeats 2000000 in
set_option maxRecDepth 100000 in
theorem orders_law (u : Int) (p : ByteArray) (k : Int) (b : Bool) (n : Int) (s : ByteArray) (v : Int) (u' : Int) (p' : ByteArray) (k' : Int) (b' : Bool) (n' : Int) (s' : ByteArray) (v' : Int) (hu : 0 ≤ u) (hv : 0 ≤ v) (hu' : 0 ≤ u') (hv' : 0 ≤ v') (w : World) (hG : Gl w) :
    Calls Tryd.prog 4 #[et u p k b n s v, et u' p' k' b' n' s' v'] w fun e w' => e = .returned (.bool true) ∧ Bel w w' := by
  have C := hide (fun (u : Int) (p : ByteArray) (k : Int) (b : Bool) (n : Int) (s : ByteArray) (v : Int) (hu : 0 ≤ u) (hv : 0 ≤ v) W => refMay_any u p k b n s v hu hv W)
  have C9 := hide (fun W hW => alive_any W hW)
  have HG := hide hG
  have h7 := hide (show SS w.heap.size (w.heap.size + 1) u p k b n s v u' p' k' b' n' s' v' ((w.alloc (.cells #[.int .u64 u, .string p, .int .u8 k, .bool b, .int .i64 n, .string s, .int .u64 v] 27)).alloc (.cells #[.int .u64 u', .string p', .int .u8 k', .bool b', .int .i64 n', .string s', .int .u64 v'] 27)) from ⟨(S7.first u p k b n s v w).next ((Bel.refl _).alloc _), S7.at u' p' k' b' n' s' v' w _⟩)
  have hb0 := hide (show Bel w ((w.alloc (.cells #[.int .u64 u, .string p, .int .u8 k, .bool b, .int .i64 n, .string s, .int .u64 v] 27)).alloc (.cells #[.int .u64 u', .string p', .int .u8 k', .bool b', .int .i64 n', .string s', .int .u64 v'] 27)) from ((Bel.refl _).alloc _).alloc _)
  clear hG
  by_cases e1 : eT u p k b n s v = 0
  · by_cases e2 : eT u' p' k' b' n' s' v' = 0
    · have C1 := hide (fun W => tcmp_yes u p k b n s v u' p' k' b' n' s' v' hu hu' e1 e2 W)
      have C2 := hide (fun W => refTcmp u p k b n s v u' p' k' b' n' s' v' e1 e2 W)
      generalize tord u p k b n s v u' p' k' b' n' s' v' = X at C1 C2
      have f1 : (eT u p k b n s v != 0) = false := by rw [e1]; rfl
      have f2 : (eT u' p' k' b' n' s' v' != 0) = false := by rw [e2]; rfl
      clear e1 e2
      unfold et at C C1 C2 ⊢
      go_enter Tryd.func4, Tryd.ntmps4
      go_wp2_with (go_at_call 15; refine (C1.out _).mono ?_; rintro e w1 ⟨rfl, hb1⟩)
      have h8 := (h7.out.next hb1).next (Bel.refl _).drew
      have hb2 := (hb0.out.trans hb1).drew
      have hG2 := HG.out.next hb2
      clear h7 hb0 hb1 HG C1
      generalize w.heap.size + 1 = B2 at *
      generalize w.heap.size = B at *
      go_region_held3 (fun W => (W.cell? ⟨B, 0, none⟩ = some (.int .u64 u) ∧ W.cell? ⟨B, 1, none⟩ = some (.string p) ∧ W.cell? ⟨B, 2, none⟩ = some (.int .u8 k) ∧ W.cell? ⟨B, 3, none⟩ = some (.bool b) ∧ W.cell? ⟨B, 4, none⟩ = some (.int .i64 n) ∧ W.cell? ⟨B, 5, none⟩ = some (.string s) ∧ W.cell? ⟨B, 6, none⟩ = some (.int .u64 v)) ∧ (W.cell? ⟨B2, 0, none⟩ = some (.int .u64 u') ∧ W.cell? ⟨B2, 1, none⟩ = some (.string p') ∧ W.cell? ⟨B2, 2, none⟩ = some (.int .u8 k') ∧ W.cell? ⟨B2, 3, none⟩ = some (.bool b') ∧ W.cell? ⟨B2, 4, none⟩ = some (.int .i64 n') ∧ W.cell? ⟨B2, 5, none⟩ = some (.string s') ∧ W.cell? ⟨B2, 6, none⟩ = some (.int .u64 v'))) (first | assumption | exact SS.next (by assumption) (by assumption)) ((first | (go_at_call 6; refine (C.out _ _ _ _ _ _ _ (by assumption) (by assumption) _).mono ?_; rintro e w' ⟨rfl, hb⟩)))
      all_goals
        have h9 := SS.next (SS.next h8 (by assumption)) (by assumption)
        have hb3 := (hb2.trans (by assumption)).trans (by assumption)
        have hG3 := (hG2.next (by assumption)).next (by assumption)
        clear h8 hb2 hG2
        rename_i hHeld
        clear hHeld
        have H9 := hide h9
        have HG3 := hide hG3
        obtain ⟨⟨c0, c1, c2, c3, c4, c5, c6⟩, d0, d1, d2, d3, d4, d5, d6⟩ := h9
        clear hG3
        go_wp2_with ((first | (go_at_call 16; refine (C2.out _).mono ?_; rintro e w8 ⟨rfl, hb8⟩) | (go_at_call 12; refine (C9.out _ (HG3.out.next hb8)).mono ?_; rintro e w9 ⟨rfl, hb9⟩)))
        go_ret
        exact ⟨rfl, (hb3.trans hb8).trans hb9⟩
    · have C1 := hide (fun W => tcmp_no u p k b n s v u' p' k' b' n' s' v' hu hu' (by rw [e1]; simpa [fstE] using e2) W)
      rw [show fstE [eT u p k b n s v, eT u' p' k' b' n' s' v'] = eT u' p' k' b' n' s' v' by rw [e1]; simp [fstE, e2]] at C1
      have f1 : (eT u p k b n s v != 0) = false := by rw [e1]; rfl
      have f2 : (eT u' p' k' b' n' s' v' != 0) = true := by simpa using e2
      clear e1 e2
      unfold et at C C1 ⊢
      go_enter Tryd.func4, Tryd.ntmps4
      go_wp2_with (go_at_call 15; refine (C1.out _).mono ?_; rintro e w1 ⟨rfl, hb1⟩)
      have h8 := (h7.out.next hb1).next (Bel.refl _).drew
      have hb2 := (hb0.out.trans hb1).drew
      have hG2 := HG.out.next hb2
      clear h7 hb0 hb1 HG C1
      generalize w.heap.size + 1 = B2 at *
      generalize w.heap.size = B at *
      go_region_held3 (fun W => (W.cell? ⟨B, 0, none⟩ = some (.int .u64 u) ∧ W.cell? ⟨B, 1, none⟩ = some (.string p) ∧ W.cell? ⟨B, 2, none⟩ = some (.int .u8 k) ∧ W.cell? ⟨B, 3, none⟩ = some (.bool b) ∧ W.cell? ⟨B, 4, none⟩ = some (.int .i64 n) ∧ W.cell? ⟨B, 5, none⟩ = some (.string s) ∧ W.cell? ⟨B, 6, none⟩ = some (.int .u64 v)) ∧ (W.cell? ⟨B2, 0, none⟩ = some (.int .u64 u') ∧ W.cell? ⟨B2, 1, none⟩ = some (.string p') ∧ W.cell? ⟨B2, 2, none⟩ = some (.int .u8 k') ∧ W.cell? ⟨B2, 3, none⟩ = some (.bool b') ∧ W.cell? ⟨B2, 4, none⟩ = some (.int .i64 n') ∧ W.cell? ⟨B2, 5, none⟩ = some (.string s') ∧ W.cell? ⟨B2, 6, none⟩ = some (.int .u64 v'))) (first | assumption | exact SS.next (by assumption) (by assumption)) ((first | (go_at_call 6; refine (C.out _ _ _ _ _ _ _ (by assumption) (by assumption) _).mono ?_; rintro e w' ⟨rfl, hb⟩)))
      all_goals
        have h9 := SS.next (SS.next h8 (by assumption)) (by assumption)
        have hb3 := (hb2.trans (by assumption)).trans (by assumption)
        have hG3 := (hG2.next (by assumption)).next (by assumption)
        clear h8 hb2 hG2
        rename_i hHeld
        clear hHeld
        have H9 := hide h9
        have HG3 := hide hG3
        obtain ⟨⟨c0, c1, c2, c3, c4, c5, c6⟩, d0, d1, d2, d3, d4, d5, d6⟩ := h9
        clear hG3
        go_wp2_with ((go_at_call 12; refine (C9.out _ HG3.out).mono ?_; rintro e w9 ⟨rfl, hb9⟩))
        go_ret
        exact ⟨rfl, hb3.trans hb9⟩
  · have C1 := hide (fun W => tcmp_no u p k b n s v u' p' k' b' n' s' v' hu hu' (by simp [fstE, e1]) W)
    rw [show fstE [eT u p k b n s v, eT u' p' k' b' n' s' v'] = eT u p k b n s v by simp [fstE, e1]] at C1
    have f1 : (eT u p k b n s v != 0) = true := by simpa using e1
    clear e1
    unfold et at C C1 ⊢
    go_enter Tryd.func4, Tryd.ntmps4
    go_wp2_with (go_at_call 15; refine (C1.out _).mono ?_; rintro e w1 ⟨rfl, hb1⟩)
    have h8 := (h7.out.next hb1).next (Bel.refl _).drew
    have hb2 := (hb0.out.trans hb1).drew
    have hG2 := HG.out.next hb2
    clear h7 hb0 hb1 HG C1
    generalize w.heap.size + 1 = B2 at *
    generalize w.heap.size = B at *
    go_region_held3 (fun W => (W.cell? ⟨B, 0, none⟩ = some (.int .u64 u) ∧ W.cell? ⟨B, 1, none⟩ = some (.string p) ∧ W.cell? ⟨B, 2, none⟩ = some (.int .u8 k) ∧ W.cell? ⟨B, 3, none⟩ = some (.bool b) ∧ W.cell? ⟨B, 4, none⟩ = some (.int .i64 n) ∧ W.cell? ⟨B, 5, none⟩ = some (.string s) ∧ W.cell? ⟨B, 6, none⟩ = some (.int .u64 v)) ∧ (W.cell? ⟨B2, 0, none⟩ = some (.int .u64 u') ∧ W.cell? ⟨B2, 1, none⟩ = some (.string p') ∧ W.cell? ⟨B2, 2, none⟩ = some (.int .u8 k') ∧ W.cell? ⟨B2, 3, none⟩ = some (.bool b') ∧ W.cell? ⟨B2, 4, none⟩ = some (.int .i64 n') ∧ W.cell? ⟨B2, 5, none⟩ = some (.string s') ∧ W.cell? ⟨B2, 6, none⟩ = some (.int .u64 v'))) (first | assumption | exact SS.next (by assumption) (by assumption)) ((first | (go_at_call 6; refine (C.out _ _ _ _ _ _ _ (by assumption) (by assumption) _).mono ?_; rintro e w' ⟨rfl, hb⟩)))
    all_goals
      have h9 := SS.next (SS.next h8 (by assumption)) (by assumption)
      have hb3 := (hb2.trans (by assumption)).trans (by assumption)
      have hG3 := (hG2.next (by assumption)).next (by assumption)
      clear h8 hb2 hG2
      rename_i hHeld
      clear hHeld
      have H9 := hide h9
      have HG3 := hide hG3
      obtain ⟨⟨c0, c1, c2, c3, c4, c5, c6⟩, d0, d1, d2, d3, d4, d5, d6⟩ := h9
      clear hG3
      go_wp2_with ((go_at_call 12; refine (C9.out _ HG3.out).mono ?_; rintro e w9 ⟨rfl, hb9⟩))
      go_ret
      exact ⟨rfl, hb3.trans hb9⟩
theorem orders_card (u : Int) (p : ByteArray) (k : Int) (b : Bool) (n : Int) (s : ByteArray) (v : Int) (u' : Int) (p' : ByteArray) (k' : Int) (b' : Bool) (n' : Int) (s' : ByteArray) (v' : Int) (hU : 0 ≤ u ∧ u < 18446744073709551616) (hr : inR n v) (hU' : 0 ≤ u' ∧ u' < 18446744073709551616) (hr' : inR n' v') (w : World) (hG : Gl w) :
    Calls Tryd.prog 4 #[et u p k b n s v, et u' p' k' b' n' s' v'] w fun e w' => e = .returned (.bool true) ∧ Bel w w' := orders_law u p k b n s v u' p' k' b' n' s' v' hU.1 hr.2.2.1 hU'.1 hr'.2.2.1 w hG
end Go.Proofs.YtgghcfmpfneehaaDoor
