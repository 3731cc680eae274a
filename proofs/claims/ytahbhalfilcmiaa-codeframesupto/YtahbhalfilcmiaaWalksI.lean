/- What the program's and the document's ReadFrame return; for every text. -/
import Derived.Test.YtahbhalfilcmiaaWalksF
import Derived.Test.YtahbhalfilcmiaaWalksH
namespace Go.Proofs.Ytahbhalfilcmiaa
open Go.RowKit
theorem ext_ext (s : ByteArray) (a b n : Nat) (h : a + n ≤ b) : (s.extract a b).extract 0 n = s.extract a (a + n) := by
  rw [ByteArray.extract_extract]
  congr 1
  omega
theorem size_from (s : ByteArray) (a : Nat) : (s.extract a s.size).size = s.size - a := by simp
theorem ext_rest (s : ByteArray) (a n : Nat) (h : a ≤ s.size) : (s.extract a s.size).extract n (s.size - a) = s.extract (a + n) s.size := by
  rw [ByteArray.extract_extract]
  congr 1; omega
theorem bg4 (s : ByteArray) (h : s.size ≤ 4) : bg s.data.toList < 4294967296 := by
  have h1 := bg_lt s.data.toList
  have h2 : 256 ^ s.data.toList.length ≤ 256 ^ 4 := Nat.pow_le_pow_right (by omega) (by simpa using h)
  omega
def fLen (s : ByteArray) : Nat := bg (s.extract 0 4).data.toList
def fSum (s : ByteArray) : Nat := (more 0#32 ((s.extract 0 4).data.toList ++ (s.extract 8 (8 + fLen s)).data.toList)).toNat
def rFrame (s : ByteArray) : ByteArray × ByteArray × Int :=
  if s.size < 8 then (⟨#[]⟩, ⟨#[]⟩, 20) else if 16777216 < fLen s then (⟨#[]⟩, ⟨#[]⟩, 4) else if s.size < 8 + fLen s then (⟨#[]⟩, ⟨#[]⟩, 20)
  else if bg (s.extract 4 8).data.toList ≠ fSum s then (⟨#[]⟩, ⟨#[]⟩, 22) else (s.extract 8 (8 + fLen s), s.extract (8 + fLen s) s.size, 0)
theorem bne_t {b c : Nat} (h : b ≠ c) : ((b : Int) != (c : Int)) = true := by rw [bne_iff_ne]; omega
theorem rf_end (s : ByteArray) (n : Nat) (h8 : 8 ≤ s.size) (hs : 8 + n ≤ s.size) (w w' : World) (hb : Bel w w') :
    Ending.returned (.tuple #[.string ((s.extract 8 s.size).extract 0 n), .string ((s.extract 8 s.size).extract n (s.size - 8)), .int .i64 0]) = Ending.returned (.tuple #[.string (s.extract 8 (8 + n)), .string (s.extract (8 + n) s.size), .int .i64 0]) ∧ Bel w w' := by
  rw [ext_ext s 8 s.size n hs, ext_rest s 8 n h8]; exact ⟨rfl, hb⟩
theorem readFrame_any (s : ByteArray) (hm : s.size ≤ 150000000000000) (w : World) :
    Calls Try.prog 28 #[.string s] w fun e w' => e = .returned (.tuple #[.string (rFrame s).1, .string (rFrame s).2.1, .int .i64 (rFrame s).2.2]) ∧ Bel w w' := by
  by_cases h8 : s.size < 8
  · rw [show rFrame s = (⟨#[]⟩, ⟨#[]⟩, 20) by unfold rFrame; rw [if_pos h8]]
    go_enter Try.func28, Try.ntmps28
    go_wp2
    go_ret3
    exact ⟨rfl, Bel.refl _⟩
  have C38a : Hid (∀ W, Calls Try.prog 38 #[.string (s.extract 0 4)] W fun e w' => e = .returned (.int .u64 (fLen s : Int)) ∧ w' = W) := hide (fun W => number_any _ (by simp; omega) W)
  have hn32 : fLen s < 4294967296 := bg4 _ (by simp; omega)
  have f1 : (8 : Int) ≤ (s.size : Int) := by omega
  have f4 : (4 : Int) ≤ (s.size : Int) := by omega
  by_cases hl : 16777216 < fLen s
  · rw [show rFrame s = (⟨#[]⟩, ⟨#[]⟩, 4) by unfold rFrame; rw [if_neg h8, if_pos hl]]
    generalize fLen s = n at *
    have f2 : 16777216 < (n : Int) := by omega
    clear hn32
    go_enter Try.func28, Try.ntmps28
    go_wp2_with fail
    go_region_held3 (fun _ => True) (trivial) (fail)
    go_wp2_with (go_at_call 38; refine (C38a.out _).mono ?_; rintro e w' ⟨rfl, rfl⟩)
    go_ret3
    exact ⟨rfl, (Bel.refl _).drew⟩
  by_cases hs : s.size < 8 + fLen s
  · rw [show rFrame s = (⟨#[]⟩, ⟨#[]⟩, 20) by unfold rFrame; rw [if_neg h8, if_neg hl, if_pos hs]]
    generalize fLen s = n at *
    have f2 : (n : Int) ≤ 16777216 := by omega
    have f3 : s.size - 8 < n := by omega
    clear hn32
    go_enter Try.func28, Try.ntmps28
    go_wp2_with fail
    go_region_held3 (fun _ => True) (trivial) (fail)
    go_wp2_with (go_at_call 38; refine (C38a.out _).mono ?_; rintro e w' ⟨rfl, rfl⟩)
    go_ret3
    exact ⟨rfl, (Bel.refl _).drew⟩
  have C38b : Hid (∀ W, Calls Try.prog 38 #[.string (s.extract 4 8)] W fun e w' => e = .returned (.int .u64 (bg (s.extract 4 8).data.toList : Int)) ∧ w' = W) := hide (fun W => number_any _ (by simp; omega) W)
  have C40 : Hid (∀ W, Calls Try.prog 40 #[.string (s.extract 0 4), .string ((s.extract 8 s.size).extract 0 (fLen s))] W fun e w' => e = .returned (.int .u32 (fSum s : Int)) ∧ w' = W) := hide (fun W => by
    rw [ext_ext s 8 s.size (fLen s) (by omega)]; exact sum_any _ _ (by simp [maxLen]; omega) (by simp [maxLen]; omega) W)
  have hcl : fSum s < 4294967296 := BitVec.isLt _
  have hw64 : IntKind.u64.wrap (fSum s : Int) = (fSum s : Int) := by rw [IntKind.wrap_u64]; omega
  have f2 : (fLen s : Int) ≤ 16777216 := by omega
  have f3 : ¬ (s.size - 8 < fLen s) := by omega
  have f5 : (fLen s : Int) ≤ ((s.size - 8 : Nat) : Int) := by omega
  have f6 : (0 : Int) ≤ (fLen s : Int) := by omega
  clear hcl hn32
  by_cases hb : bg (s.extract 4 8).data.toList ≠ fSum s
  · rw [show rFrame s = (⟨#[]⟩, ⟨#[]⟩, 22) by unfold rFrame; rw [if_neg h8, if_neg hl, if_neg hs, if_pos hb]]
    have hne := bne_t hb
    clear hb
    generalize bg (s.extract 4 8).data.toList = b at *
    generalize fSum s = c at *
    generalize fLen s = n at *
    go_enter Try.func28, Try.ntmps28
    go_wp2_with fail
    go_region_held3 (fun _ => True) (trivial) (fail)
    go_wp2_with (go_at_call 38; refine (C38a.out _).mono ?_; rintro e w' ⟨rfl, rfl⟩)
    go_region_held3 (fun _ => True) (trivial) ((first
      | (go_at_call 38; refine (C38b.out _).mono ?_; rintro e w' ⟨rfl, rfl⟩)
      | (go_at_call 40; refine (C40.out _).mono ?_; rintro e w' ⟨rfl, rfl⟩)))
    all_goals
      go_wp2
      go_ret3
      exact ⟨rfl, (Bel.refl _).drew.drew⟩
  · rw [show rFrame s = (s.extract 8 (8 + fLen s), s.extract (8 + fLen s) s.size, 0) by unfold rFrame; rw [if_neg h8, if_neg hl, if_neg hs, if_neg hb]]
    have hbc : bg (s.extract 4 8).data.toList = fSum s := Decidable.not_not.1 hb
    rw [hbc] at C38b
    clear hb hbc
    generalize fSum s = c at *
    generalize fLen s = n at *
    go_enter Try.func28, Try.ntmps28
    go_wp2_with fail
    go_region_held3 (fun _ => True) (trivial) (fail)
    go_wp2_with (go_at_call 38; refine (C38a.out _).mono ?_; rintro e w' ⟨rfl, rfl⟩)
    go_region_held3 (fun _ => True) (trivial) ((first
      | (go_at_call 38; refine (C38b.out _).mono ?_; rintro e w' ⟨rfl, rfl⟩)
      | (go_at_call 40; refine (C40.out _).mono ?_; rintro e w' ⟨rfl, rfl⟩)))
    all_goals
      go_wp2_with fail
      go_region_held3 (fun _ => True) (trivial) (fail)
    all_goals
      go_wp2
      go_ret3
      exact rf_end s n (by omega) (by omega) _ _ (Bel.refl _).drew.drew.drew
end Go.Proofs.Ytahbhalfilcmiaa
