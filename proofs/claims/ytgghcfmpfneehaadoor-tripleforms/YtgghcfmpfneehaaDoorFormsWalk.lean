/- The law TripleForms answers true: for every write and every text. -/
import Derived.Test.YtgghcfmpfneehaaDoorTriL
import Derived.Test.YtgghcfmpfneehaaDoorTriG
namespace Go.Proofs.YtgghcfmpfneehaaDoor
open Go.RowKit
set_option maxHeartbeats 2000000 in
set_option maxRecDepth 100000 in
theorem forms_law (d : Bool) (u : Nat) (hu : u < 18446744073709551616) (p : ByteArray) (k : Int) (b : Bool) (n : Int) (s : ByteArray) (v : Int) (n0 : -9223372036854775808 ≤ n) (n1 : n < 9223372036854775808) (v0 : 0 ≤ v) (v1 : v < 18446744073709551616) (q : ByteArray) (w : World) (hG : Gl w) :
    Calls Tryd.prog 3 #[wr d u p k b n s v, .string q] w fun e w' => e = .returned (.bool true) ∧ Bel w w' := by
  have C1 := hide (fun W => refMay_any u p k b n s v (by omega) v0 W)
  have C2 := hide (fun W => may_any u p k b n s v (by omega) W)
  have C5 := hide (fun W => pred_any q W)
  have C6 := hide (fun W => refPred_any q W)
  have C9 := hide (fun W hW => alive_any W hW)
  have HG := hide hG
  have h8 := hide (S8.new d u p k b n s v w)
  have hb0 := hide (show Bel w (w.alloc (.cells #[.bool d, .int .u64 u, .string p, .int .u8 k, .bool b, .int .i64 n, .string s, .int .u64 v] 29)) from (Bel.refl _).alloc _)
  clear hG
  by_cases hE : eT (u : Int) p k b n s v = 0
  · have C3 := hide (fun W => wbytes_yes d u (by omega) p k b n s v n0 n1 v0 v1 hE W)
    have C4 := hide (fun W hW => wtext_yes d u hu p k b n s v n0 n1 v0 v1 hE W hW)
    have C7 := hide (fun W => refWbytes d u (by omega) p k b n s v n0 n1 v0 v1 hE W)
    have C8 := hide (fun W => refWtext d u hu p k b n s v n0 n1 v0 v1 hE W)
    rw [hE] at C1 C2
    generalize (wby d (u : Int) p k b n s v) = WB at C3 C7
    generalize (wtx d (u : Int) p k b n s v) = WT at C4 C8
    unfold et at C1 C2
    unfold wr at C3 C4 C7 C8 ⊢
    clear hE
    cases hN : isName q.data.toList
    all_goals
      rw [hN] at C6
    · rw [eP_no hN] at C5
      clear hN
      go_enter Tryd.func3, Tryd.ntmps3
      go_wp2_with (first | (go_at_call 6; refine (C1.out _).mono ?_; rintro e w1 ⟨rfl, hb1⟩; obtain ⟨c0, c1, c2, c3, c4, c5, c6, c7⟩ := h8.out.next hb1) | (go_at_call 7; refine (C2.out _).mono ?_; rintro e w2 ⟨rfl, hb2⟩; obtain ⟨d0, d1, d2, d3, d4, d5, d6, d7⟩ := (h8.out.next hb1).next hb2) | (go_at_call 8; refine (C3.out _).mono ?_; rintro e w3 ⟨rfl, hb3⟩; obtain ⟨e0, e1, e2, e3, e4, e5, e6, e7⟩ := ((h8.out.next hb1).next hb2).next hb3) | (go_at_call 9; refine (C4.out _ (HG.out.next (((hb0.out.trans hb1).trans hb2).trans hb3))).mono ?_; rintro e w4 ⟨rfl, hb4⟩; obtain ⟨f0, f1, f2, f3, f4, f5, f6, f7⟩ := (((h8.out.next hb1).next hb2).next hb3).next hb4) | (go_at_call 10; refine (C5.out _).mono ?_; rintro e w5 ⟨rfl, rfl⟩) | (go_at_call 11; refine (C6.out _).mono ?_; rintro e w6 ⟨rfl, rfl⟩) | (go_at_call 13; refine (C7.out _).mono ?_; rintro e w7 ⟨rfl, hb7⟩; obtain ⟨g0, g1, g2, g3, g4, g5, g6, g7⟩ := ((((h8.out.next hb1).next hb2).next hb3).next hb4).next hb7) | (go_at_call 14; refine (C8.out _).mono ?_; rintro e w8 ⟨rfl, hb8⟩) | (go_at_call 12; refine (C9.out _ (HG.out.next ((((((hb0.out.trans hb1).trans hb2).trans hb3).trans hb4).trans hb7).trans hb8))).mono ?_; rintro e w9 ⟨rfl, hb9⟩))
      go_ret
      exact ⟨rfl, ((((((hb0.out.trans hb1).trans hb2).trans hb3).trans hb4).trans hb7).trans hb8).trans hb9⟩
    · rw [eP_yes hN] at C5
      clear hN
      go_enter Tryd.func3, Tryd.ntmps3
      go_wp2_with (first | (go_at_call 6; refine (C1.out _).mono ?_; rintro e w1 ⟨rfl, hb1⟩; obtain ⟨c0, c1, c2, c3, c4, c5, c6, c7⟩ := h8.out.next hb1) | (go_at_call 7; refine (C2.out _).mono ?_; rintro e w2 ⟨rfl, hb2⟩; obtain ⟨d0, d1, d2, d3, d4, d5, d6, d7⟩ := (h8.out.next hb1).next hb2) | (go_at_call 8; refine (C3.out _).mono ?_; rintro e w3 ⟨rfl, hb3⟩; obtain ⟨e0, e1, e2, e3, e4, e5, e6, e7⟩ := ((h8.out.next hb1).next hb2).next hb3) | (go_at_call 9; refine (C4.out _ (HG.out.next (((hb0.out.trans hb1).trans hb2).trans hb3))).mono ?_; rintro e w4 ⟨rfl, hb4⟩; obtain ⟨f0, f1, f2, f3, f4, f5, f6, f7⟩ := (((h8.out.next hb1).next hb2).next hb3).next hb4) | (go_at_call 10; refine (C5.out _).mono ?_; rintro e w5 ⟨rfl, rfl⟩) | (go_at_call 11; refine (C6.out _).mono ?_; rintro e w6 ⟨rfl, rfl⟩) | (go_at_call 13; refine (C7.out _).mono ?_; rintro e w7 ⟨rfl, hb7⟩; obtain ⟨g0, g1, g2, g3, g4, g5, g6, g7⟩ := ((((h8.out.next hb1).next hb2).next hb3).next hb4).next hb7) | (go_at_call 14; refine (C8.out _).mono ?_; rintro e w8 ⟨rfl, hb8⟩) | (go_at_call 12; refine (C9.out _ (HG.out.next ((((((hb0.out.trans hb1).trans hb2).trans hb3).trans hb4).trans hb7).trans hb8))).mono ?_; rintro e w9 ⟨rfl, hb9⟩))
      go_ret
      exact ⟨rfl, ((((((hb0.out.trans hb1).trans hb2).trans hb3).trans hb4).trans hb7).trans hb8).trans hb9⟩
  · have C3 := hide (fun W => wbytes_no d u p k b n s v (by omega) hE W)
    have C4 := hide (fun W (_ : Gl W) => wtext_no d u p k b n s v (by omega) hE W)
    generalize eT (u : Int) p k b n s v = E at C1 C2 C3 C4 hE
    have hE2 : (E != 0) = true := by simpa using hE
    unfold et at C1 C2
    unfold wr at C3 C4 ⊢
    clear hE
    cases hN : isName q.data.toList
    all_goals
      rw [hN] at C6
    · rw [eP_no hN] at C5
      clear hN
      go_enter Tryd.func3, Tryd.ntmps3
      go_wp2_with (first | (go_at_call 6; refine (C1.out _).mono ?_; rintro e w1 ⟨rfl, hb1⟩; obtain ⟨c0, c1, c2, c3, c4, c5, c6, c7⟩ := h8.out.next hb1) | (go_at_call 7; refine (C2.out _).mono ?_; rintro e w2 ⟨rfl, hb2⟩; obtain ⟨d0, d1, d2, d3, d4, d5, d6, d7⟩ := (h8.out.next hb1).next hb2) | (go_at_call 8; refine (C3.out _).mono ?_; rintro e w3 ⟨rfl, hb3⟩; obtain ⟨e0, e1, e2, e3, e4, e5, e6, e7⟩ := ((h8.out.next hb1).next hb2).next hb3) | (go_at_call 9; refine (C4.out _ (HG.out.next (((hb0.out.trans hb1).trans hb2).trans hb3))).mono ?_; rintro e w4 ⟨rfl, hb4⟩; obtain ⟨f0, f1, f2, f3, f4, f5, f6, f7⟩ := (((h8.out.next hb1).next hb2).next hb3).next hb4) | (go_at_call 10; refine (C5.out _).mono ?_; rintro e w5 ⟨rfl, rfl⟩) | (go_at_call 11; refine (C6.out _).mono ?_; rintro e w6 ⟨rfl, rfl⟩) | (go_at_call 12; refine (C9.out _ (HG.out.next ((((hb0.out.trans hb1).trans hb2).trans hb3).trans hb4))).mono ?_; rintro e w9 ⟨rfl, hb9⟩))
      go_ret
      exact ⟨rfl, ((((hb0.out.trans hb1).trans hb2).trans hb3).trans hb4).trans hb9⟩
    · rw [eP_yes hN] at C5
      clear hN
      go_enter Tryd.func3, Tryd.ntmps3
      go_wp2_with (first | (go_at_call 6; refine (C1.out _).mono ?_; rintro e w1 ⟨rfl, hb1⟩; obtain ⟨c0, c1, c2, c3, c4, c5, c6, c7⟩ := h8.out.next hb1) | (go_at_call 7; refine (C2.out _).mono ?_; rintro e w2 ⟨rfl, hb2⟩; obtain ⟨d0, d1, d2, d3, d4, d5, d6, d7⟩ := (h8.out.next hb1).next hb2) | (go_at_call 8; refine (C3.out _).mono ?_; rintro e w3 ⟨rfl, hb3⟩; obtain ⟨e0, e1, e2, e3, e4, e5, e6, e7⟩ := ((h8.out.next hb1).next hb2).next hb3) | (go_at_call 9; refine (C4.out _ (HG.out.next (((hb0.out.trans hb1).trans hb2).trans hb3))).mono ?_; rintro e w4 ⟨rfl, hb4⟩; obtain ⟨f0, f1, f2, f3, f4, f5, f6, f7⟩ := (((h8.out.next hb1).next hb2).next hb3).next hb4) | (go_at_call 10; refine (C5.out _).mono ?_; rintro e w5 ⟨rfl, rfl⟩) | (go_at_call 11; refine (C6.out _).mono ?_; rintro e w6 ⟨rfl, rfl⟩) | (go_at_call 12; refine (C9.out _ (HG.out.next ((((hb0.out.trans hb1).trans hb2).trans hb3).trans hb4))).mono ?_; rintro e w9 ⟨rfl, hb9⟩))
      go_ret
      exact ⟨rfl, ((((hb0.out.trans hb1).trans hb2).trans hb3).trans hb4).trans hb9⟩
theorem forms_card (d : Bool) (u : Int) (p : ByteArray) (k : Int) (b : Bool) (n : Int) (s : ByteArray) (v : Int) (q : ByteArray) (hu : 0 ≤ u ∧ u < 18446744073709551616) (hr : inR n v) (_ : q.size ≤ 140737488351232) (w : World) (hG : Gl w) :
    Calls Tryd.prog 3 #[wr d u p k b n s v, .string q] w fun e w' => e = .returned (.bool true) ∧ Bel w w' := by
  obtain ⟨m, rfl⟩ : ∃ m : Nat, u = (m : Int) := ⟨u.toNat, by omega⟩
  exact forms_law d m (by omega) p k b n s v hr.1 hr.2.1 hr.2.2.1 hr.2.2.2 q w hG
end Go.Proofs.YtgghcfmpfneehaaDoor
