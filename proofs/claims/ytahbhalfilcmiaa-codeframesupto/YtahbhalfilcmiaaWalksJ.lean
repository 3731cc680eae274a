/- What the document's ReadFrame returns; for every text. -/
import Derived.Test.YtahbhalfilcmiaaWalksI
import Derived.Test.YtahbhalfilcmiaaThere
namespace Go.Proofs.Ytahbhalfilcmiaa
open Go.RowKit
theorem rf_same (s : ByteArray) (h8 : 8 ≤ s.size) (c : Nat) (hc : c < 4294967296) : (hf c 4 = (s.extract 4 8).data.toList) ↔ bg (s.extract 4 8).data.toList = c := by
  have h4 : (s.extract 4 8).data.toList.length = 4 := by
    have : (s.extract 4 8).size = 4 := by simp; omega
    exact this
  have h := hf_eq_iff c (s.extract 4 8).data.toList (by rw [h4]; exact hc)
  rw [h4] at h; exact h
theorem rf_end2 (s : ByteArray) (n : Nat) (w w' : World) (hb : Bel w w') :
    Ending.returned (.tuple #[.string (s.extract 8 (8 + n)), .string (s.extract (8 + (n : Int)).toNat s.size), .int .i64 0]) = Ending.returned (.tuple #[.string (s.extract 8 (8 + n)), .string (s.extract (8 + n) s.size), .int .i64 0]) ∧ Bel w w' := by
  have e : (8 + (n : Int)).toNat = 8 + n := by omega
  rw [e]; exact ⟨rfl, hb⟩
theorem refReadFrame_any (s : ByteArray) (hm : s.size ≤ 150000000000000) (w : World) :
    Calls Try.prog 29 #[.string s] w fun e w' => e = .returned (.tuple #[.string (rFrame s).1, .string (rFrame s).2.1, .int .i64 (rFrame s).2.2]) ∧ Bel w w' := by
  by_cases h8 : s.size < 8
  · rw [show rFrame s = (⟨#[]⟩, ⟨#[]⟩, 20) by unfold rFrame; rw [if_pos h8]]
    go_enter Try.func29, Try.ntmps29
    go_wp2
    go_ret3
    exact ⟨rfl, Bel.refl _⟩
  have C39 : Hid (∀ W, Calls Try.prog 39 #[.string (s.extract 0 4)] W fun e w' => e = .returned (.int .u64 (fLen s : Int)) ∧ w' = W) := hide (fun W => big_any _ (by simp; omega) W)
  have hn32 : fLen s < 4294967296 := bg4 _ (by simp; omega)
  have f1 : (8 : Int) ≤ (s.size : Int) := by omega
  have f4 : (4 : Int) ≤ (s.size : Int) := by omega
  by_cases hl : 16777216 < fLen s
  · rw [show rFrame s = (⟨#[]⟩, ⟨#[]⟩, 4) by unfold rFrame; rw [if_neg h8, if_pos hl]]
    generalize fLen s = n at *
    have f2 : 16777216 < (n : Int) := by omega
    clear hn32
    go_enter Try.func29, Try.ntmps29
    go_wp2_with (go_at_call 39; refine (C39.out _).mono ?_; rintro e w' ⟨rfl, rfl⟩)
    go_ret3
    exact ⟨rfl, Bel.refl _⟩
  by_cases hs : s.size < 8 + fLen s
  · rw [show rFrame s = (⟨#[]⟩, ⟨#[]⟩, 20) by unfold rFrame; rw [if_neg h8, if_neg hl, if_pos hs]]
    generalize fLen s = n at *
    have f2 : (n : Int) ≤ 16777216 := by omega
    have f3 : (s.size : Int) - 8 < (n : Int) := by omega
    clear hn32
    go_enter Try.func29, Try.ntmps29
    go_wp2_with (go_at_call 39; refine (C39.out _).mono ?_; rintro e w' ⟨rfl, rfl⟩)
    go_ret3
    exact ⟨rfl, Bel.refl _⟩
  have C34 : Hid (∀ W, Calls Try.prog 34 #[.string (s.extract 0 4 ++ s.extract 8 (8 + fLen s))] W fun e w' => e = .returned (.int .u32 (fSum s : Int)) ∧ w' = W) := hide (fun W => by
    have h := refOf_any (s.extract 0 4 ++ s.extract 8 (8 + fLen s)) (by rw [ByteArray.size_append]; simp [maxLen]; omega) W
    rw [show (s.extract 0 4 ++ s.extract 8 (8 + fLen s)).data.toList = (s.extract 0 4).data.toList ++ (s.extract 8 (8 + fLen s)).data.toList by rw [ByteArray.data_append, Array.toList_append]] at h
    exact h)
  have hcl : fSum s < 4294967296 := BitVec.isLt _
  have hw64 : IntKind.u64.wrap (fSum s : Int) = (fSum s : Int) := by rw [IntKind.wrap_u64]; omega
  have hsame := rf_same s (by omega) (fSum s) hcl
  have f2 : (fLen s : Int) ≤ 16777216 := by omega
  have f3 : ¬ ((s.size : Int) - 8 < (fLen s : Int)) := by omega
  have f5 : 8 + (fLen s : Int) ≤ (s.size : Int) := by omega
  have f6 : (0 : Int) ≤ 8 + (fLen s : Int) := by omega
  have f7 : (8 : Int) ≤ 8 + (fLen s : Int) := by omega
  have f0 : IntKind.u64.wrap (8 + (fLen s : Int)) = 8 + (fLen s : Int) := by rw [IntKind.wrap_u64]; omega
  have q1 : ¬ (9223372036854775807 < min 4 s.size + (min (8 + fLen s) s.size - 8)) := by omega
  clear hcl hn32
  by_cases hb : bg (s.extract 4 8).data.toList ≠ fSum s
  · rw [show rFrame s = (⟨#[]⟩, ⟨#[]⟩, 22) by unfold rFrame; rw [if_neg h8, if_neg hl, if_neg hs, if_pos hb]]
    have hne : (hf (fSum s) 4 == (s.extract 4 8).toList) = false := by
      rw [beq_eq_false_iff_ne, ByteArray.toList_eq]; exact fun h => hb (hsame.1 h)
    clear hb hsame
    generalize fSum s = c at *
    generalize fLen s = n at *
    go_enter Try.func29, Try.ntmps29
    go_wp2_with (go_at_call 39; refine (C39.out _).mono ?_; rintro e w' ⟨rfl, rfl⟩)
    go_region_held3 (fun _ => True) (trivial) ((first
      | (go_at_call 34; refine (C34.out _).mono ?_; rintro e w' ⟨rfl, rfl⟩)
      | (go_at_call 33; refine (fixed_any c 4 (by omega) _).mono ?_; rintro e w' ⟨rfl, hb4⟩)))
    all_goals
      go_wp2
      go_ret3
      exact ⟨rfl, (Bel.refl _).drew.trans hb4⟩
  · rw [show rFrame s = (s.extract 8 (8 + fLen s), s.extract (8 + fLen s) s.size, 0) by unfold rFrame; rw [if_neg h8, if_neg hl, if_neg hs, if_neg hb]]
    have hne : (hf (fSum s) 4 == (s.extract 4 8).toList) = true := by
      rw [beq_iff_eq, ByteArray.toList_eq]; exact hsame.2 (Decidable.not_not.1 hb)
    clear hb hsame
    generalize fSum s = c at *
    generalize fLen s = n at *
    go_enter Try.func29, Try.ntmps29
    go_wp2_with (go_at_call 39; refine (C39.out _).mono ?_; rintro e w' ⟨rfl, rfl⟩)
    go_region_held3 (fun _ => True) (trivial) ((first
      | (go_at_call 34; refine (C34.out _).mono ?_; rintro e w' ⟨rfl, rfl⟩)
      | (go_at_call 33; refine (fixed_any c 4 (by omega) _).mono ?_; rintro e w' ⟨rfl, hb4⟩)))
    all_goals
      go_wp2_with fail
      go_region_held3 (fun _ => True) (trivial) (fail)
    all_goals
      go_wp2
      go_ret3
      exact rf_end2 s n _ _ ((Bel.refl _).drew.trans hb4).drew
end Go.Proofs.Ytahbhalfilcmiaa
