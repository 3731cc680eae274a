/- The walk of the law on there and back: it returns true, for every number, every number with a sign and every two texts within the form's own reach. -/
import Derived.Test.YtahbhalfilcmiaaAlive
import Derived.Test.YtahbhalfilcmiaaBack
import Derived.OpenShut
namespace Go.Proofs.Ytahbhalfilcmiaa
open Go.RowKit Go.WideShapes Go.ChangeShapes
theorem key_size (l : List UInt8) : (key l).length ≤ 2 * l.length + 2 := by
  rw [key_len]
  have h : ∀ l : List UInt8, (esc l).length ≤ 2 * l.length := by
    intro l
    induction l with
    | nil => simp [esc]
    | cons c l ih =>
      have e : esc (c :: l) = esc [c] ++ esc l := esc_append [c] l
      have h1 : (esc [c]).length ≤ 2 := by by_cases h : c = 0 <;> simp [esc, h]
      rw [e, List.length_append, List.length_cons]; omega
  have := h l
  omega
theorem as5 (a b c d e f : ByteArray) : a ++ b ++ c ++ d ++ e ++ f = a ++ (b ++ (c ++ (d ++ (e ++ f)))) := by
  simp only [ByteArray.append_assoc]
set_option maxHeartbeats 1000000 in
theorem back_walk (n : Nat) (hn : n < 2 ^ 64) (i : Int) (h0 : -9223372036854775808 ≤ i) (h1 : i < 9223372036854775808) (s rest : ByteArray) (hm : s.size ≤ 140737488351232) (hr : rest.size ≤ 140737488351232) (w : World) :
    Calls Try.prog 6 #[.int .u64 (n : Int), .int .i64 i, .string s, .string rest] w fun e w' => e = .returned (.bool true) ∧ Bel w w' := by
  have c10 := hide (fun W => frame_any s (by omega) W)
  by_cases hl : 16777216 < s.size
  · rw [show rFr s = (⟨#[]⟩, 4) by unfold rFr; rw [if_pos hl]] at c10
    clear hn h0 h1 hm hr hl
    go_enter Try.func6, Try.ntmps6
    go_wp2_with fail
    refine (c10.out _).mono ?_
    rintro e w1 ⟨rfl, b1⟩
    go_wp2_with fail
    refine (alive_any _).mono ?_
    rintro e w2 ⟨rfl, b2⟩
    go_wp2
    go_ret
    exact ⟨rfl, b1.trans b2⟩
  · rw [show rFr s = (⟨(headL s).toArray⟩ ++ s, 0) by unfold rFr; rw [if_neg hl]] at c10
    have hk := key_size s.data.toList
    rw [ba_len] at hk
    have c12 := fun W => num_any n hn W
    have c14 := fun W => int_any i h0 h1 W
    have c16 := fun W => text_any s (by omega) W
    have c18 := fun W => key_any s (by omega) W
    have z1 : (⟨(num n).toArray⟩ : ByteArray).size ≤ 9 := num_len n hn
    have z2 : (⟨(int8 i).toArray⟩ : ByteArray).size = 8 := hf_len _ _
    have z3 : (text s).size ≤ 9 + s.size := by
      unfold text; rw [ByteArray.size_append]
      have := num_len s.size (by omega)
      have e : (⟨(num s.size).toArray⟩ : ByteArray).size = (num s.size).length := rfl
      omega
    have z4 : (⟨(key s.data.toList).toArray⟩ : ByteArray).size ≤ 2 * s.size + 2 := hk
    have z5 : ((⟨(headL s).toArray⟩ : ByteArray) ++ s).size = 8 + s.size := by
      rw [ByteArray.size_append]
      have e : (⟨(headL s).toArray⟩ : ByteArray).size = (headL s).length := rfl
      rw [e, headL_len]
    have k1 := fun r => rNum_back n hn r
    have k2 := fun r => rInt_back i h0 h1 r
    have k3 := fun r => rText_back s r (by omega)
    have k4 := fun r => rKey_back s r
    have k5 := fun r => rFrame_back s r (by omega)
    generalize (⟨(num n).toArray⟩ : ByteArray) = x1 at *
    generalize (⟨(int8 i).toArray⟩ : ByteArray) = x2 at *
    generalize text s = x3 at *
    generalize (⟨(key s.data.toList).toArray⟩ : ByteArray) = x4 at *
    generalize (⟨(headL s).toArray⟩ : ByteArray) ++ s = x5 at *
    have c20 : ∀ W, Calls Try.prog 20 #[.string (x1 ++ x2 ++ x3 ++ x4 ++ x5 ++ rest)] W fun e w' => e = .returned (.tuple #[.int .u64 (n : Int), .string (x2 ++ (x3 ++ (x4 ++ (x5 ++ rest)))), .int .i64 0]) ∧ Bel W w' := fun W => by
      have h := readNum_any (x1 ++ x2 ++ x3 ++ x4 ++ x5 ++ rest) (by simp only [ByteArray.size_append]; omega) W
      rw [as5, k1, ← as5] at h
      exact h
    have c22 : ∀ W, Calls Try.prog 22 #[.string (x2 ++ (x3 ++ (x4 ++ (x5 ++ rest))))] W fun e w' => e = .returned (.tuple #[.int .i64 i, .string (x3 ++ (x4 ++ (x5 ++ rest))), .int .i64 0]) ∧ Bel W w' := fun W => by
      have h := readInt_any (x2 ++ (x3 ++ (x4 ++ (x5 ++ rest)))) (by simp only [ByteArray.size_append]; omega) W
      rw [k2] at h
      exact h
    have c24 : ∀ W, Calls Try.prog 24 #[.string (x3 ++ (x4 ++ (x5 ++ rest)))] W fun e w' => e = .returned (.tuple #[.string s, .string (x4 ++ (x5 ++ rest)), .int .i64 0]) ∧ Bel W w' := fun W => by
      have h := readText_any (x3 ++ (x4 ++ (x5 ++ rest))) (by simp only [ByteArray.size_append]; omega) W
      rw [k3] at h
      exact h
    have c26 : ∀ W, Calls Try.prog 26 #[.string (x4 ++ (x5 ++ rest))] W fun e w' => e = .returned (.tuple #[.string s, .string (x5 ++ rest), .int .i64 0]) ∧ Bel W w' := fun W => by
      have h := readKey_any (x4 ++ (x5 ++ rest)) (by simp only [ByteArray.size_append]; omega) W
      rw [k4] at h
      exact h
    have c28 : ∀ W, Calls Try.prog 28 #[.string (x5 ++ rest)] W fun e w' => e = .returned (.tuple #[.string s, .string rest, .int .i64 0]) ∧ Bel W w' := fun W => by
      have h := readFrame_any (x5 ++ rest) (by simp only [ByteArray.size_append]; omega) W
      rw [k5] at h
      exact h
    have q1 : ¬ (9223372036854775807 < x1.size + x2.size) := by omega
    have q2 : ¬ (9223372036854775807 < x1.size + x2.size + x3.size) := by omega
    have q3 : ¬ (9223372036854775807 < x1.size + x2.size + x3.size + x4.size) := by omega
    have q4 : ¬ (9223372036854775807 < x1.size + x2.size + x3.size + x4.size + x5.size) := by omega
    have q5 : ¬ (9223372036854775807 < x1.size + x2.size + x3.size + x4.size + x5.size + rest.size) := by omega
    generalize x2 ++ (x3 ++ (x4 ++ (x5 ++ rest))) = R2 at *
    generalize x3 ++ (x4 ++ (x5 ++ rest)) = R3 at *
    generalize x4 ++ (x5 ++ rest) = R4 at *
    generalize x5 ++ rest = R5 at *
    have C12 := hide c12
    have C14 := hide c14
    have C16 := hide c16
    have C18 := hide c18
    have C20 := hide c20
    have C22 := hide c22
    have C24 := hide c24
    have C26 := hide c26
    have C28 := hide c28
    clear hn h0 h1 hm hr hl hk z1 z2 z3 z4 z5 k1 k2 k3 k4 k5 c12 c14 c16 c18 c20 c22 c24 c26 c28
    go_enter Try.func6, Try.ntmps6
    go_wp2_with fail
    refine (c10.out _).mono ?_
    rintro e w1 ⟨rfl, b1⟩
    go_wp2_with fail
    refine (C12.out _).mono ?_
    rintro e w2 ⟨rfl, b2⟩
    go_wp2_with fail
    refine (C14.out _).mono ?_
    rintro e w3 ⟨rfl, b3⟩
    go_wp2_with fail
    refine (C16.out _).mono ?_
    rintro e w4 ⟨rfl, b4⟩
    go_wp2_with fail
    refine (C18.out _).mono ?_
    rintro e w5 ⟨rfl, b5⟩
    go_wp2_with fail
    refine (C20.out _).mono ?_
    rintro e w6 ⟨rfl, b6⟩
    go_wp2_with fail
    refine (C22.out _).mono ?_
    rintro e w7 ⟨rfl, b7⟩
    go_wp2_with fail
    refine (C24.out _).mono ?_
    rintro e w8 ⟨rfl, b8⟩
    go_wp2_with fail
    refine (C26.out _).mono ?_
    rintro e w9 ⟨rfl, b9⟩
    go_wp2_with fail
    refine (C28.out _).mono ?_
    rintro e w10 ⟨rfl, b10⟩
    go_wp2_with fail
    refine (alive_any _).mono ?_
    rintro e w11 ⟨rfl, b11⟩
    go_wp2
    go_ret
    exact ⟨rfl, ((((((((((b1.trans b2).trans b3).trans b4).trans b5).trans b6).trans b7).trans b8).trans b9).trans b10).trans b11)⟩
theorem back_law (a0 a1 : Int) (s rest : ByteArray) (w0 : (Lit.int .u64 a0).wf = true) (w1 : (Lit.int .i64 a1).wf = true) (hm : s.size ≤ 140737488351232) (hr : rest.size ≤ 140737488351232) (w : World) :
    Calls Try.prog 6 #[.int .u64 a0, .int .i64 a1, .string s, .string rest] w fun e w' => e = .returned (.bool true) ∧ Bel w w' := by
  have hb0 := bounds_u64 w0
  have hb1 := bounds_i64 w1
  obtain ⟨n, rfl⟩ := Int.eq_ofNat_of_zero_le hb0.1
  exact back_walk n (by omega) a1 (by omega) (by omega) s rest hm hr w
end Go.Proofs.Ytahbhalfilcmiaa
