/- What code.Text and ReadText of both return; texts there and back. -/
import Derived.Test.YtgghcfmpfneehaaGreatDoorOne
import Derived.Test.YtgghcfmpfneehaaGreatDoorBack
namespace Go.Proofs.YtgghcfmpfneehaaGreatDoor
open Go.RowKit
def ctx (s : ByteArray) : ByteArray := ⟨(num s.size).toArray⟩ ++ s
theorem ctext_any (s : ByteArray) (hs : s.size ≤ 150000000000000) (w : World) :
    Calls Tryz.prog 52 #[.string s] w fun e w' => e = .returned (.string (ctx s)) ∧ Bel w w' := by
  have hq : ¬ (9223372036854775807 < (num s.size).length + s.size) := by have := num_len s.size (by omega); omega
  go_enter Tryz.func52, Tryz.ntmps52
  go_wp2_with fail
  refine (num_any s.size (by omega) _).mono ?_
  rintro e w' ⟨rfl, hb⟩
  go_wp2_with fail
  go_ret
  exact ⟨rfl, hb⟩
def rText (s : ByteArray) : ByteArray × ByteArray × Int :=
  if (rNum s).2.2 ≠ 0 then (⟨#[]⟩, ⟨#[]⟩, (rNum s).2.2) else if (rNum s).2.1.size < (rNum s).1 then (⟨#[]⟩, ⟨#[]⟩, 20)
  else ((rNum s).2.1.extract 0 (rNum s).1, (rNum s).2.1.extract (rNum s).1 (rNum s).2.1.size, 0)
set_option maxRecDepth 100000 in
theorem creadText_any (s : ByteArray) (hm : s.size ≤ 150000000000000) (w : World) :
    Calls Tryz.prog 25 #[.string s] w fun e w' => e = .returned (.tuple #[.string (rText s).1, .string (rText s).2.1, .int .i64 (rText s).2.2]) ∧ Bel w w' := by
  have c20 := fun W => readNum_any s hm W
  have hf := rNum_facts s
  unfold rText
  generalize rNum s = r at *
  obtain ⟨n, body, x⟩ := r
  simp only at c20 hf ⊢
  have hbm : body.size ≤ 150000000000000 := by omega
  have C20 := hide c20
  have Hf := hide hf.1
  clear c20 hf
  by_cases hx : x = 0
  · subst hx
    by_cases hn : body.size < n
    · rw [if_neg (by simp), if_pos hn]
      go_enter Tryz.func25, Tryz.ntmps25
      go_wp2_with (go_at_call 23; refine (C20.out _).mono ?_; rintro e w'' ⟨rfl, hb⟩)
      go_ret3
      exact ⟨rfl, hb⟩
    · rw [if_neg (by simp), if_neg hn]
      have hnl : (n : Int) ≤ (body.size : Int) := by omega
      have f1 : (0 : Int) ≤ (n : Int) := by omega
      go_enter Tryz.func25, Tryz.ntmps25
      go_wp2_with (go_at_call 23; refine (C20.out _).mono ?_; rintro e w'' ⟨rfl, hb⟩)
      go_region_held3 (fun _ => True) (trivial) (fail)
      all_goals
        go_wp2
        go_ret3
        exact ⟨rfl, hb.drew⟩
  · rw [if_pos (by simpa using hx)]
    have hxx : (x != 0) = true := by rw [bne_iff_ne]; exact hx
    clear hx
    go_enter Tryz.func25, Tryz.ntmps25
    go_wp2_with (go_at_call 23; refine (C20.out _).mono ?_; rintro e w'' ⟨rfl, hb⟩)
    go_ret3
    exact ⟨rfl, hb⟩
set_option maxRecDepth 100000 in
theorem crefReadText_any (s : ByteArray) (hm : s.size ≤ 150000000000000) (w : World) :
    Calls Tryz.prog 31 #[.string s] w fun e w' => e = .returned (.tuple #[.string (rText s).1, .string (rText s).2.1, .int .i64 (rText s).2.2]) ∧ Bel w w' := by
  have c20 := fun W => refReadNum_any s hm W
  have hf := rNum_facts s
  unfold rText
  generalize rNum s = r at *
  obtain ⟨n, body, x⟩ := r
  simp only at c20 hf ⊢
  have hbm : body.size ≤ 150000000000000 := by omega
  have C20 := hide c20
  have Hf := hide hf.1
  clear c20 hf
  by_cases hx : x = 0
  · subst hx
    by_cases hn : body.size < n
    · rw [if_neg (by simp), if_pos hn]
      go_enter Tryz.func31, Tryz.ntmps31
      go_wp2_with (go_at_call 30; refine (C20.out _).mono ?_; rintro e w'' ⟨rfl, hb⟩)
      go_ret3
      exact ⟨rfl, hb⟩
    · rw [if_neg (by simp), if_neg hn]
      have hnl : (n : Int) ≤ (body.size : Int) := by omega
      have f1 : (0 : Int) ≤ (n : Int) := by omega
      go_enter Tryz.func31, Tryz.ntmps31
      go_wp2_with (go_at_call 30; refine (C20.out _).mono ?_; rintro e w'' ⟨rfl, hb⟩)
      go_region_held3 (fun _ => True) (trivial) (fail)
      all_goals
        go_wp2
        go_ret3
        exact ⟨rfl, hb.drew⟩
  · rw [if_pos (by simpa using hx)]
    have hxx : (x != 0) = true := by rw [bne_iff_ne]; exact hx
    clear hx
    go_enter Tryz.func31, Tryz.ntmps31
    go_wp2_with (go_at_call 30; refine (C20.out _).mono ?_; rintro e w'' ⟨rfl, hb⟩)
    go_ret3
    exact ⟨rfl, hb⟩
theorem rText_back (t r : ByteArray) (ht : t.size < 2 ^ 64) : rText (ctx t ++ r) = (t, r, 0) := by
  have e : rNum (ctx t ++ r) = (t.size, t ++ r, 0) := by
    unfold ctx
    rw [ByteArray.append_assoc]
    exact rNum_back _ ht _
  unfold rText
  rw [e]
  simp only
  rw [if_neg (by simp), if_neg (by rw [ByteArray.size_append]; omega)]
  have x1 : (t ++ r).extract 0 t.size = t := by
    apply ba_ext
    rw [ba_extract, ba_app, List.drop_zero, List.take_append_of_le_length (by rw [ba_len]; omega), List.take_of_length_le (by rw [ba_len]; omega)]
  have x2 : (t ++ r).extract t.size (t ++ r).size = r := by
    apply ba_ext
    rw [ba_rest, ba_app, List.drop_append_of_le_length (by rw [ba_len]; omega), List.drop_of_length_le (by rw [ba_len]; omega), List.nil_append]
  rw [x1, x2]
theorem rText_one (s : ByteArray) (h : (rText s).2.2 = 0) : ctx (rText s).1 ++ (rText s).2.1 = s ∧ (rText s).1.size ≤ s.size := by
  have hf := rNum_facts s
  have h1 := rNum_one s
  unfold rText at h ⊢
  generalize rNum s = r at *
  obtain ⟨n, body, x⟩ := r
  simp only at h h1 hf ⊢
  by_cases hx : x = 0
  · subst hx
    rw [if_neg (by simp)] at h ⊢
    by_cases hn : body.size < n
    · rw [if_pos hn] at h; simp at h
    · rw [if_neg hn]
      simp only
      have hsz : (body.extract 0 n).size = n := by simp; omega
      refine ⟨?_, by rw [hsz]; omega⟩
      unfold ctx
      rw [hsz, ← h1 rfl]
      apply ba_ext
      rw [ba_app, ba_app, ba_app, ba_rest, ba_extract]
      simp
  · rw [if_pos (by simpa using hx)] at h
    exact absurd h hx
theorem rText_len (s : ByteArray) : (rText s).1.size ≤ s.size := by
  by_cases h : (rText s).2.2 = 0
  · exact (rText_one s h).2
  · have e : (rText s).1 = ⟨#[]⟩ := by
      unfold rText at h ⊢
      split
      · rfl
      · rename_i h1
        rw [if_neg h1] at h
        split
        · rfl
        · rename_i h2
          rw [if_neg h2] at h
          simp at h
    rw [e]; exact Nat.zero_le _
end Go.Proofs.YtgghcfmpfneehaaGreatDoor
