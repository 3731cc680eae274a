/- The walk of the law on what is written: it returns true, for every number, every number with a sign and every text within the form's own reach. -/
import Derived.Test.YtahbhalfilcmiaaAlive
import Derived.Test.YtahbhalfilcmiaaWalksH
import Derived.OpenShut
namespace Go.Proofs.Ytahbhalfilcmiaa
open Go.RowKit Go.WideShapes Go.ChangeShapes
theorem esc_le (l : List UInt8) : (esc l).length ≤ 2 * l.length := by
  induction l with
  | nil => simp [esc]
  | cons c l ih =>
    have e : esc (c :: l) = esc [c] ++ esc l := esc_append [c] l
    have h1 : (esc [c]).length ≤ 2 := by by_cases h : c = 0 <;> simp [esc, h]
    rw [e, List.length_append, List.length_cons]; omega
theorem writes_walk (n : Nat) (hn : n < 2 ^ 64) (i : Int) (h0 : -9223372036854775808 ≤ i) (h1 : i < 9223372036854775808) (s : ByteArray) (hm : s.size ≤ 150000000000000) (w : World) :
    Calls Try.prog 3 #[.int .u64 (n : Int), .int .i64 i, .string s] w fun e w' => e = .returned (.bool true) ∧ Bel w w' := by
  by_cases hl : 33554432 < s.size
  · have hl' : (33554432 : Int) < (s.size : Int) := by omega
    clear hn h0 h1
    go_enter Try.func3, Try.ntmps3
    go_wp2_with fail
    refine (alive_any _).mono ?_
    rintro e w1 ⟨rfl, b1⟩
    go_wp2
    go_ret
    exact ⟨rfl, b1⟩
  · have hl' : ¬ (33554432 : Int) < (s.size : Int) := by omega
    have hk : (key s.data.toList).length ≤ 200000000000000 := by
      rw [key_len]
      have := esc_le s.data.toList
      have e : s.data.toList.length = s.size := rfl
      omega
    have c12 := hide (fun W => num_any n hn W)
    have c13 := hide (fun W => refNum_any n hn W)
    have c14 := hide (fun W => int_any i h0 h1 W)
    have c15 := hide (fun W => refInt_any i h0 h1 W)
    have c16 := hide (fun W => text_any s hm W)
    have c17 := hide (fun W => refText_any s hm W)
    have c18 := hide (fun W => key_any s hk W)
    have c19 := hide (fun W => refKey_any s hk W)
    have c10 := hide (fun W => frame_any s hm W)
    have c11 := hide (fun W => refFrame_any s hm W)
    generalize rFr s = r at *
    generalize (⟨(key s.data.toList).toArray⟩ : ByteArray) = rk at *
    generalize text s = rt at *
    generalize (⟨(int8 i).toArray⟩ : ByteArray) = ri at *
    generalize (⟨(num n).toArray⟩ : ByteArray) = rn at *
    obtain ⟨rf, re⟩ := r
    simp only at c10 c11
    clear hn h0 h1 hk hm
    go_enter Try.func3, Try.ntmps3
    go_wp2_with fail
    refine (c10.out _).mono ?_
    rintro e w1 ⟨rfl, b1⟩
    go_wp2_with fail
    refine (c11.out _).mono ?_
    rintro e w2 ⟨rfl, b2⟩
    go_wp2_with fail
    refine (c12.out _).mono ?_
    rintro e w3 ⟨rfl, b3⟩
    go_wp2_with fail
    refine (c13.out _).mono ?_
    rintro e w4 ⟨rfl, b4⟩
    go_wp2_with fail
    refine (c14.out _).mono ?_
    rintro e w5 ⟨rfl, b5⟩
    go_wp2_with fail
    refine (c15.out _).mono ?_
    rintro e w6 ⟨rfl, b6⟩
    go_wp2_with fail
    refine (c16.out _).mono ?_
    rintro e w7 ⟨rfl, b7⟩
    go_wp2_with fail
    refine (c17.out _).mono ?_
    rintro e w8 ⟨rfl, b8⟩
    go_wp2_with fail
    refine (c18.out _).mono ?_
    rintro e w9 ⟨rfl, b9⟩
    go_wp2_with fail
    refine (c19.out _).mono ?_
    rintro e w10 ⟨rfl, b10⟩
    go_wp2_with fail
    refine (alive_any _).mono ?_
    rintro e w11 ⟨rfl, b11⟩
    go_wp2
    go_ret
    exact ⟨rfl, ((((((((((b1.trans b2).trans b3).trans b4).trans b5).trans b6).trans b7).trans b8).trans b9).trans b10).trans b11)⟩
theorem writes_law (a0 a1 : Int) (s : ByteArray) (w0 : (Lit.int .u64 a0).wf = true) (w1 : (Lit.int .i64 a1).wf = true) (hm : s.size ≤ 150000000000000) (w : World) :
    Calls Try.prog 3 #[.int .u64 a0, .int .i64 a1, .string s] w fun e w' => e = .returned (.bool true) ∧ Bel w w' := by
  have hb0 := bounds_u64 w0
  have hb1 := bounds_i64 w1
  obtain ⟨n, rfl⟩ := Int.eq_ofNat_of_zero_le hb0.1
  exact writes_walk n (by omega) a1 (by omega) (by omega) s hm w
end Go.Proofs.Ytahbhalfilcmiaa
