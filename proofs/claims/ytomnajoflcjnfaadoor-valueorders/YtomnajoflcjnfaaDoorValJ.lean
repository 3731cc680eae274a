/- The law's own first questions: alive answers true. -/
import Derived.Test.YtomnajoflcjnfaaDoorValI
namespace Go.Proofs.YtomnajoflcjnfaaDoor
open Go.RowKit
theorem hex_255 : hexL 255 = [102, 102] := by
  rw [hexL_big (by decide), show 255 / 16 = 15 from rfl, show 255 % 16 = 15 from rfl, hexL_small (by decide)]
  decide
theorem no_FF (k : Int) (b : Bool) (n : Int) (s : ByteArray) (u : Int) (h : mayV k b n s u) : ltr k b n s u ≠ [48, 120, 70, 70] := by
  rcases h with ⟨rfl, rfl, rfl, rfl⟩ | ⟨rfl, rfl, rfl, rfl⟩ | ⟨rfl, rfl, rfl, rfl, h⟩ | ⟨rfl, rfl, rfl, rfl, h⟩
  · intro e
    have e : tf b = [48, 120, 70, 70] := e
    have := h0_tf b; rw [e] at this; simp [h0] at this
  · exact itoa_no_x n [70, 70]
  · intro e
    have e : quo s.data.toList = [48, 120, 70, 70] := e
    simp [quo] at e
  · intro e
    have e : 48 :: 120 :: hexL u.toNat = [48, 120, 70, 70] := e
    injection e with _ e
    injection e with _ e
    have := hexL_hx u.toNat 70 (by rw [e]; simp)
    unfold isHx at this
    simp at this
theorem text_255 (w : World) (hG : Gl w) : Calls Tryd.prog 11 #[ev 4 false 0 ⟨#[]⟩ 255] w fun e w' => e = .returned (.tuple #[.string ⟨#[48, 120, 102, 102]⟩, .int .i64 0]) ∧ Bel w w' := by
  have h := text_4 255 (by decide) (by decide) w hG
  rw [hex_255] at h
  exact h
theorem bytes_a (w : World) : Calls Tryd.prog 10 #[ev 3 false 0 ⟨#[97]⟩ 0] w fun e w' => e = .returned (.tuple #[.string ⟨#[3, 97, 0, 1]⟩, .int .i64 0]) ∧ Bel w w' := by
  have h := bytes_yes (k := 3) (b := false) (n := 0) (s := ⟨#[97]⟩) (u := 0) (Or.inr (Or.inr (Or.inl ⟨rfl, rfl, rfl, rfl, by decide⟩))) (by omega) (by omega) (by omega) (by omega) w
  have e : (byt 3 false 0 ⟨#[97]⟩ 0).toArray = #[3, 97, 0, 1] := by decide
  rw [e] at h
  exact h
theorem read_FF (w : World) (hG : Gl w) : Calls Tryd.prog 17 #[.string ⟨#[48, 120, 70, 70]⟩] w fun e w' => e = .returned (.tuple #[ev 0 false 0 ⟨#[]⟩ 0, .int .i64 30]) ∧ Bel w w' := by
  refine (readText_any ⟨#[48, 120, 70, 70]⟩ (by decide) w hG).mono ?_
  rintro e w' ⟨k, b, n, t, u, x, rfl, hb, h | ⟨rfl, rfl, rfl, rfl, rfl, rfl, _⟩⟩
  · exact absurd h.2.2.2.1 (no_FF _ _ _ _ _ h.2.1)
  · exact ⟨rfl, hb⟩
set_option maxRecDepth 100000 in
theorem alive_any (w : World) (hG : Gl w) : Calls Tryd.prog 12 #[] w fun e w' => e = .returned (.bool true) ∧ Bel w w' := by
  have C1 := hide (fun W hW => text_255 W hW)
  have C2 := hide (fun W hW => read_FF W hW)
  have C3 := hide (fun W => bytes_a W)
  have HG := hide hG
  clear hG
  unfold ev at C1 C2 C3
  go_enter Tryd.func12, Tryd.ntmps12
  go_wp2_with (first | (go_at_call 11; refine (C1.out _ HG.out).mono ?_; rintro e w1 ⟨rfl, hb1⟩) | (go_at_call 17; refine (C2.out _ (HG.out.next hb1)).mono ?_; rintro e w2 ⟨rfl, hb2⟩) | (go_at_call 10; refine (C3.out _).mono ?_; rintro e w3 ⟨rfl, hb3⟩))
  go_ret
  exact ⟨rfl, hb1.trans (hb2.trans (((Bel.refl _).alloc _).trans hb3))⟩
end Go.Proofs.YtomnajoflcjnfaaDoor
