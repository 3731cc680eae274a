/- Whether a triple may be, by the document; a write's bytes, by the program and by the document. -/
import Derived.Test.YtgghcfmpfneehaaGreatDoorTriC
import Derived.Test.YtgghcfmpfneehaaGreatDoorValK
namespace Go.Proofs.YtgghcfmpfneehaaGreatDoor
open Go.RowKit
set_option maxRecDepth 100000 in
theorem refMay_any (u : Int) (p : ByteArray) (k : Int) (b : Bool) (n : Int) (s : ByteArray) (v : Int) (hu0 : 0 ≤ u) (hv0 : 0 ≤ v) (w : World) :
    Calls Tryz.prog 33 #[et u p k b n s v] w fun e w' => e = .returned (.int .i64 (eT u p k b n s v)) ∧ Bel w w' := by
  have hP := hide (fun W => refPred_any p W)
  rcases eT_cases u p k b n s v with ⟨h1, e⟩ | ⟨h1, h2, e⟩ | ⟨h1, h2, h3, e⟩ | ⟨h1, h2, h3, e⟩
  · rw [e]
    obtain rfl : u = 0 := by omega
    clear h1 e hu0 hP
    unfold et
    go_enter Tryz.func33, Tryz.ntmps33
    go_wp2_with fail
    go_ret
    exact ⟨rfl, (Bel.refl _).alloc _⟩
  · rw [e]
    rw [h2] at hP
    have hu : (u == 0) = false := ne_beq (by omega)
    clear h1 h2 e hu0
    unfold et
    go_enter Tryz.func33, Tryz.ntmps33
    go_wp2_with (go_at_call 66; refine (hP.out _).mono ?_; rintro e w' ⟨rfl, rfl⟩)
    go_ret
    exact ⟨rfl, (Bel.refl _).alloc _⟩
  · rw [e]
    rw [h2] at hP
    have hC := hide (fun W => rmay_no h3 W)
    have hu : (u == 0) = false := ne_beq (by omega)
    clear h1 h2 h3 e hu0
    unfold ev at hC
    unfold et
    go_enter Tryz.func33, Tryz.ntmps33
    go_wp2_with (first | (go_at_call 66; refine (hP.out _).mono ?_; rintro e w' ⟨rfl, rfl⟩) | (go_at_call 65; refine (hC.out _).mono ?_; rintro e w' ⟨rfl, hb⟩))
    go_ret
    exact ⟨rfl, ((Bel.refl _).alloc _).trans hb⟩
  · rw [e]
    rw [h2] at hP
    have hC := hide (fun W => rmay_yes h3 hv0 W)
    have hu : (u == 0) = false := ne_beq (by omega)
    clear h1 h2 h3 e hu0
    unfold ev at hC
    unfold et
    go_enter Tryz.func33, Tryz.ntmps33
    go_wp2_with (first | (go_at_call 66; refine (hP.out _).mono ?_; rintro e w' ⟨rfl, rfl⟩) | (go_at_call 65; refine (hC.out _).mono ?_; rintro e w' ⟨rfl, hb⟩))
    go_ret
    exact ⟨rfl, ((Bel.refl _).alloc _).trans hb⟩
end Go.Proofs.YtgghcfmpfneehaaGreatDoor
