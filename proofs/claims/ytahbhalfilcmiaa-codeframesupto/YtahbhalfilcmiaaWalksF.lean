/- What the program's and the document's ReadInt and ReadText return; for every text. -/
import Derived.Test.YtahbhalfilcmiaaWalksE
namespace Go.Proofs.Ytahbhalfilcmiaa
open Go.RowKit
def rInt (s : ByteArray) : Int × ByteArray × Int :=
  if s.size < 8 then (0, ⟨#[]⟩, 20) else ((bg (s.extract 0 8).data.toList : Int) - 9223372036854775808, s.extract 8 s.size, 0)
theorem low63 (b : Nat) (h : b < 18446744073709551616) : IntKind.i64.wrap (IntKind.u64.wrap ((b : Int) - 9223372036854775808)) = (b : Int) - 9223372036854775808 := by
  rw [IntKind.wrap_u64, IntKind.wrap_i64]; omega
theorem bg64 (s : ByteArray) (h : s.size ≤ 8) : bg s.data.toList < 18446744073709551616 := by
  have h1 := bg_lt s.data.toList
  have h2 : 256 ^ s.data.toList.length ≤ 256 ^ 8 := Nat.pow_le_pow_right (by omega) (by simpa using h)
  omega
theorem int_end (s : ByteArray) (b : Nat) (h : b < 18446744073709551616) (w w' : World) (hb : Bel w w') :
    Ending.returned (.tuple #[.int .i64 (IntKind.i64.wrap (IntKind.u64.wrap ((b : Int) - 9223372036854775808))), .string (s.extract 8 s.size), .int .i64 0]) = Ending.returned (.tuple #[.int .i64 ((b : Int) - 9223372036854775808), .string (s.extract 8 s.size), .int .i64 0]) ∧ Bel w w' := by
  rw [low63 b h]; exact ⟨rfl, hb⟩
theorem readInt_any (s : ByteArray) (hm : s.size ≤ 150000000000000) (w : World) :
    Calls Try.prog 22 #[.string s] w fun e w' => e = .returned (.tuple #[.int .i64 (rInt s).1, .string (rInt s).2.1, .int .i64 (rInt s).2.2]) ∧ Bel w w' := by
  by_cases h8 : s.size < 8
  · rw [show rInt s = (0, ⟨#[]⟩, 20) by unfold rInt; rw [if_pos h8]]
    go_enter Try.func22, Try.ntmps22
    go_wp2
    go_ret3
    exact ⟨rfl, Bel.refl _⟩
  · rw [show rInt s = ((bg (s.extract 0 8).data.toList : Int) - 9223372036854775808, s.extract 8 s.size, 0) by unfold rInt; rw [if_neg h8]]
    have c38 := fun W => number_any (s.extract 0 8) (by simp; omega) W
    have hb := hide (bg64 (s.extract 0 8) (by simp; omega))
    generalize bg (s.extract 0 8).data.toList = b at *
    have C38 := hide c38
    have f1 : (8 : Int) ≤ (s.size : Int) := by omega
    clear c38
    go_enter Try.func22, Try.ntmps22
    go_wp2_with fail
    go_region_held3 (fun _ => True) (trivial) ((go_at_call 38; refine (C38.out _).mono ?_; rintro e w'' ⟨rfl, rfl⟩))
    all_goals
      go_wp2
      go_ret3
      exact int_end s b hb.out _ _ (Bel.refl _).drew
theorem refReadInt_any (s : ByteArray) (hm : s.size ≤ 150000000000000) (w : World) :
    Calls Try.prog 23 #[.string s] w fun e w' => e = .returned (.tuple #[.int .i64 (rInt s).1, .string (rInt s).2.1, .int .i64 (rInt s).2.2]) ∧ Bel w w' := by
  by_cases h8 : s.size < 8
  · rw [show rInt s = (0, ⟨#[]⟩, 20) by unfold rInt; rw [if_pos h8]]
    go_enter Try.func23, Try.ntmps23
    go_wp2
    go_ret3
    exact ⟨rfl, Bel.refl _⟩
  · rw [show rInt s = ((bg (s.extract 0 8).data.toList : Int) - 9223372036854775808, s.extract 8 s.size, 0) by unfold rInt; rw [if_neg h8]]
    have c38 := fun W => big_any (s.extract 0 8) (by simp; omega) W
    have hb := hide (bg64 (s.extract 0 8) (by simp; omega))
    generalize bg (s.extract 0 8).data.toList = b at *
    have C38 := hide c38
    have f1 : (8 : Int) ≤ (s.size : Int) := by omega
    clear c38
    go_enter Try.func23, Try.ntmps23
    go_wp2_with fail
    go_region_held3 (fun _ => True) (trivial) ((go_at_call 39; refine (C38.out _).mono ?_; rintro e w'' ⟨rfl, rfl⟩))
    all_goals
      go_wp2
      go_ret3
      exact int_end s b hb.out _ _ (Bel.refl _).drew
def rText (s : ByteArray) : ByteArray × ByteArray × Int :=
  if (rNum s).2.2 ≠ 0 then (⟨#[]⟩, ⟨#[]⟩, (rNum s).2.2) else if (rNum s).2.1.size < (rNum s).1 then (⟨#[]⟩, ⟨#[]⟩, 20)
  else ((rNum s).2.1.extract 0 (rNum s).1, (rNum s).2.1.extract (rNum s).1 (rNum s).2.1.size, 0)
theorem rNum_facts (s : ByteArray) : (rNum s).1 < 18446744073709551616 ∧ (rNum s).2.1.size ≤ s.size := by
  rcases rNum_cases s with ⟨h0, e⟩ | ⟨h0, h8, e⟩ | ⟨h0, h8, hs, e⟩ | ⟨h1, h8, hs, hp, hz, e⟩ | ⟨h1, h8, hs, hp, hz, e⟩ | ⟨h0, hp, e⟩
  all_goals rw [e]
  · exact ⟨by decide, Nat.zero_le _⟩
  · exact ⟨by decide, Nat.zero_le _⟩
  · exact ⟨by decide, Nat.zero_le _⟩
  · exact ⟨by decide, Nat.zero_le _⟩
  · exact ⟨bg64 _ (by simp; omega), by simp⟩
  · exact ⟨bg64 _ (by simp; omega), by simp⟩
theorem readText_any (s : ByteArray) (hm : s.size ≤ 150000000000000) (w : World) :
    Calls Try.prog 24 #[.string s] w fun e w' => e = .returned (.tuple #[.string (rText s).1, .string (rText s).2.1, .int .i64 (rText s).2.2]) ∧ Bel w w' := by
  have c20 := fun W => readNum_any s hm W
  have hf := rNum_facts s
  unfold rText
  generalize rNum s = r at *
  obtain ⟨n, body, x⟩ := r
  simp only at c20 hf ⊢
  have hbm : body.size ≤ 150000000000000 := by omega
  have C20 := hide c20
  have Hf := hide hf.1
  clear c20 hf
  by_cases hx : x = 0
  · subst hx
    by_cases hn : body.size < n
    · rw [if_neg (by simp), if_pos hn]
      go_enter Try.func24, Try.ntmps24
      go_wp2_with (go_at_call 20; refine (C20.out _).mono ?_; rintro e w'' ⟨rfl, hb⟩)
      go_ret3
      exact ⟨rfl, hb⟩
    · rw [if_neg (by simp), if_neg hn]
      have hnl : (n : Int) ≤ (body.size : Int) := by omega
      have f1 : (0 : Int) ≤ (n : Int) := by omega
      go_enter Try.func24, Try.ntmps24
      go_wp2_with (go_at_call 20; refine (C20.out _).mono ?_; rintro e w'' ⟨rfl, hb⟩)
      go_region_held3 (fun _ => True) (trivial) (fail)
      all_goals
        go_wp2
        go_ret3
        exact ⟨rfl, hb.drew⟩
  · rw [if_pos (by simpa using hx)]
    have hxx : (x != 0) = true := by rw [bne_iff_ne]; exact hx
    clear hx
    go_enter Try.func24, Try.ntmps24
    go_wp2_with (go_at_call 20; refine (C20.out _).mono ?_; rintro e w'' ⟨rfl, hb⟩)
    go_ret3
    exact ⟨rfl, hb⟩
theorem refReadText_any (s : ByteArray) (hm : s.size ≤ 150000000000000) (w : World) :
    Calls Try.prog 25 #[.string s] w fun e w' => e = .returned (.tuple #[.string (rText s).1, .string (rText s).2.1, .int .i64 (rText s).2.2]) ∧ Bel w w' := by
  have c20 := fun W => refReadNum_any s hm W
  have hf := rNum_facts s
  unfold rText
  generalize rNum s = r at *
  obtain ⟨n, body, x⟩ := r
  simp only at c20 hf ⊢
  have hbm : body.size ≤ 150000000000000 := by omega
  have C20 := hide c20
  have Hf := hide hf.1
  clear c20 hf
  by_cases hx : x = 0
  · subst hx
    by_cases hn : body.size < n
    · rw [if_neg (by simp), if_pos hn]
      go_enter Try.func25, Try.ntmps25
      go_wp2_with (go_at_call 21; refine (C20.out _).mono ?_; rintro e w'' ⟨rfl, hb⟩)
      go_ret3
      exact ⟨rfl, hb⟩
    · rw [if_neg (by simp), if_neg hn]
      have hnl : (n : Int) ≤ (body.size : Int) := by omega
      have f1 : (0 : Int) ≤ (n : Int) := by omega
      go_enter Try.func25, Try.ntmps25
      go_wp2_with (go_at_call 21; refine (C20.out _).mono ?_; rintro e w'' ⟨rfl, hb⟩)
      go_region_held3 (fun _ => True) (trivial) (fail)
      all_goals
        go_wp2
        go_ret3
        exact ⟨rfl, hb.drew⟩
  · rw [if_pos (by simpa using hx)]
    have hxx : (x != 0) = true := by rw [bne_iff_ne]; exact hx
    clear hx
    go_enter Try.func25, Try.ntmps25
    go_wp2_with (go_at_call 21; refine (C20.out _).mono ?_; rintro e w'' ⟨rfl, hb⟩)
    go_ret3
    exact ⟨rfl, hb⟩
end Go.Proofs.Ytahbhalfilcmiaa
