/- The law ValueForms walked: for every value it answers true, and what was there is as it was. -/
import Derived.Test.YtomnajoflcjnfaaDoorValJ
import Derived.Test.YtomnajoflcjnfaaDoorValL
namespace Go.Proofs.YtomnajoflcjnfaaDoor
open Go.RowKit
set_option maxHeartbeats 1000000 in
set_option maxRecDepth 100000 in
theorem forms_no {k : Int} {b : Bool} {n : Int} {s : ByteArray} {u : Int} (h : ¬ mayV k b n s u) (w : World) (hG : Gl w) :
    Calls Tryd.prog 3 #[ev k b n s u] w fun e w' => e = .returned (.bool true) ∧ Bel w w' := by
  have C8 := hide (fun W => rmay_no h W)
  have C9 := hide (fun W => may_no h W)
  have C10 := hide (fun W => bytes_no h W)
  have C11 := hide (fun W => text_no h W)
  have HG := hide hG
  have h5 := hide (S5.first k b n s u w)
  clear h hG
  unfold ev at C8 C9 C10 C11 ⊢
  go_enter Tryd.func3, Tryd.ntmps3
  go_wp2_with (first
    | (go_at_call 8; refine (C8.out _).mono ?_; rintro e w1 ⟨rfl, hb1⟩; have h51 := hide (h5.out.next hb1); obtain ⟨c0, c1, c2, c3, c4⟩ := h51.out)
    | (go_at_call 9; refine (C9.out _).mono ?_; rintro e w2 ⟨rfl, hb2⟩; have h52 := hide (h51.out.next hb2); obtain ⟨d0, d1, d2, d3, d4⟩ := h52.out)
    | (go_at_call 10; refine (C10.out _).mono ?_; rintro e w3 ⟨rfl, hb3⟩; have h53 := hide (h52.out.next hb3); obtain ⟨e0, e1, e2, e3, e4⟩ := h53.out)
    | (go_at_call 11; refine (C11.out _).mono ?_; rintro e w4 ⟨rfl, hb4⟩; have hB := hide (((Bel.refl w).alloc _).trans (hb1.trans (hb2.trans (hb3.trans hb4)))))
    | (go_at_call 12; refine (alive_any _ (HG.out.next hB.out)).mono ?_; rintro e w5 ⟨rfl, hb5⟩))
  go_ret
  exact ⟨rfl, hB.out.trans hb5⟩
set_option maxHeartbeats 1000000 in
set_option maxRecDepth 100000 in
theorem forms_yes {k : Int} {b : Bool} {n : Int} {s : ByteArray} {u : Int} (h : mayV k b n s u) (n0 : -9223372036854775808 ≤ n) (n1 : n < 9223372036854775808) (u0 : 0 ≤ u) (u1 : u < 18446744073709551616) (w : World) (hG : Gl w) :
    Calls Tryd.prog 3 #[ev k b n s u] w fun e w' => e = .returned (.bool true) ∧ Bel w w' := by
  have C8 := hide (fun W => rmay_yes h u0 W)
  have C9 := hide (fun W => may_yes h W)
  have C10 := hide (fun W => bytes_yes h n0 n1 u0 u1 W)
  have C11 := hide (fun W hW => text_yes h n0 n1 u0 u1 W hW)
  have C13 := hide (fun W => rbytes_yes h n0 n1 u0 u1 W)
  have C14 := hide (fun W => rtext_yes h n0 n1 u0 u1 W)
  have HG := hide hG
  have h5 := hide (S5.first k b n s u w)
  clear h hG n0 n1 u0 u1
  generalize byt k b n s u = BY at *
  generalize ltr k b n s u = LT at *
  unfold ev at C8 C9 C10 C11 C13 C14 ⊢
  go_enter Tryd.func3, Tryd.ntmps3
  go_wp2_with (first
    | (go_at_call 8; refine (C8.out _).mono ?_; rintro e w1 ⟨rfl, hb1⟩; have h51 := hide (h5.out.next hb1); obtain ⟨c0, c1, c2, c3, c4⟩ := h51.out)
    | (go_at_call 9; refine (C9.out _).mono ?_; rintro e w2 ⟨rfl, hb2⟩; have h52 := hide (h51.out.next hb2); obtain ⟨d0, d1, d2, d3, d4⟩ := h52.out)
    | (go_at_call 10; refine (C10.out _).mono ?_; rintro e w3 ⟨rfl, hb3⟩; have h53 := hide (h52.out.next hb3); obtain ⟨e0, e1, e2, e3, e4⟩ := h53.out; have hB3 := hide (((Bel.refl w).alloc _).trans (hb1.trans (hb2.trans hb3))))
    | (go_at_call 11; refine (C11.out _ (HG.out.next hB3.out)).mono ?_; rintro e w4 ⟨rfl, hb4⟩; have h54 := hide (h53.out.next hb4); obtain ⟨f0, f1, f2, f3, f4⟩ := h54.out; have hB4 := hide (hB3.out.trans hb4))
    | (go_at_call 13; refine (C13.out _).mono ?_; rintro e w5 ⟨rfl, hb5⟩; have h55 := hide (h54.out.next hb5); obtain ⟨g0, g1, g2, g3, g4⟩ := h55.out; have hB5 := hide (hB4.out.trans hb5))
    | (go_at_call 14; refine (C14.out _).mono ?_; rintro e w6 ⟨rfl, hb6⟩; have hB6 := hide (hB5.out.trans hb6))
    | (go_at_call 12; refine (alive_any _ (HG.out.next hB6.out)).mono ?_; rintro e w7 ⟨rfl, hb7⟩))
  go_ret
  exact ⟨rfl, hB6.out.trans hb7⟩
theorem forms_law (k : Int) (b : Bool) (n : Int) (s : ByteArray) (u : Int) (n0 : -9223372036854775808 ≤ n) (n1 : n < 9223372036854775808) (u0 : 0 ≤ u) (u1 : u < 18446744073709551616) (w : World) (hG : Gl w) :
    Calls Tryd.prog 3 #[ev k b n s u] w fun e w' => e = .returned (.bool true) ∧ Bel w w' := by
  by_cases h : mayV k b n s u
  · exact forms_yes h n0 n1 u0 u1 w hG
  · exact forms_no h w hG
end Go.Proofs.YtomnajoflcjnfaaDoor
