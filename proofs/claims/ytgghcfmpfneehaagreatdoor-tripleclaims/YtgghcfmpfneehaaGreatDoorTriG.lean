/- The law's own first questions: alive answers true. -/
import Derived.Test.YtgghcfmpfneehaaGreatDoorTriF
namespace Go.Proofs.YtgghcfmpfneehaaGreatDoor
open Go.RowKit
theorem eT_alive : eT ((1 : Nat) : Int) ⟨#[110, 97, 109, 101]⟩ 3 false 0 ⟨#[120]⟩ 0 = 0 := eT_ok (by decide) (by decide) (Or.inr (Or.inr (Or.inl ⟨rfl, rfl, rfl, rfl, by decide⟩)))
theorem text_alive (w : World) (hG : Gl w) : Calls Tryz.prog 19 #[wr false 1 ⟨#[110, 97, 109, 101]⟩ 3 false 0 ⟨#[120]⟩ 0] w fun e w' => e = .returned (.tuple #[.string ⟨#[43, 32, 48, 120, 49, 32, 110, 97, 109, 101, 32, 34, 120, 34]⟩, .int .i64 0]) ∧ Bel w w' := by
  have h := wtext_yes false 1 (by decide) ⟨#[110, 97, 109, 101]⟩ 3 false 0 ⟨#[120]⟩ 0 (by omega) (by omega) (by omega) (by omega) eT_alive w hG
  have e : (wtx false ((1 : Nat) : Int) ⟨#[110, 97, 109, 101]⟩ 3 false 0 ⟨#[120]⟩ 0).toArray = #[43, 32, 48, 120, 49, 32, 110, 97, 109, 101, 32, 34, 120, 34] := by
    unfold wtx
    rw [show (((1 : Nat) : Int)).toNat = 1 from rfl, hexL_small (by decide)]
    decide
  rw [e] at h
  exact h
theorem bytes_alive (w : World) : Calls Tryz.prog 18 #[wr false 1 ⟨#[110, 97, 109, 101]⟩ 3 false 0 ⟨#[120]⟩ 0] w fun e w' => e = .returned (.tuple #[.string ⟨#[0, 1, 1, 1, 4, 110, 97, 109, 101, 3, 120, 0, 1]⟩, .int .i64 0]) ∧ Bel w w' := by
  have h := wbytes_yes false 1 (by decide) ⟨#[110, 97, 109, 101]⟩ 3 false 0 ⟨#[120]⟩ 0 (by omega) (by omega) (by omega) (by omega) eT_alive w
  have e : (wby false ((1 : Nat) : Int) ⟨#[110, 97, 109, 101]⟩ 3 false 0 ⟨#[120]⟩ 0).toArray = #[0, 1, 1, 1, 4, 110, 97, 109, 101, 3, 120, 0, 1] := by decide
  rw [e] at h
  exact h
theorem pred_alive (w : World) : Calls Tryz.prog 40 #[.string ⟨#[49, 97]⟩] w fun e w' => e = .returned (.int .i64 40) ∧ w' = w := by
  have h := pred_any ⟨#[49, 97]⟩ w
  rw [show eP ⟨#[49, 97]⟩ = 40 by decide] at h
  exact h
set_option maxRecDepth 100000 in
theorem alive_any (w : World) (hG : Gl w) : Calls Tryz.prog 10 #[] w fun e w' => e = .returned (.bool true) ∧ Bel w w' := by
  have C1 := hide (fun W hW => text_alive W hW)
  have C2 := hide (fun W => bytes_alive W)
  have C3 := hide (fun W => pred_alive W)
  have HG := hide hG
  clear hG
  unfold wr at C1 C2
  go_enter Tryz.func10, Tryz.ntmps10
  go_wp2_with (first | (go_at_call 19; refine (C1.out _ (HG.out.next ((Bel.refl _).alloc _))).mono ?_; rintro e w1 ⟨rfl, hb1⟩; obtain ⟨c0, c1, c2, c3, c4, c5, c6, c7⟩ := (S8.new false 1 ⟨#[110, 97, 109, 101]⟩ 3 false 0 ⟨#[120]⟩ 0 w).next hb1) | (go_at_call 18; refine (C2.out _).mono ?_; rintro e w2 ⟨rfl, hb2⟩) | (go_at_call 40; refine (C3.out _).mono ?_; rintro e w3 ⟨rfl, rfl⟩))
  go_ret
  exact ⟨rfl, (((Bel.refl _).alloc _).trans hb1).trans hb2⟩
end Go.Proofs.YtgghcfmpfneehaaGreatDoor
