/- The order of values, plain: what Cmp reckons, and that the bytes stand in it. -/
import Derived.Test.YtgghcfmpfneehaaDoorOrder
import Derived.Test.YtgghcfmpfneehaaDoorValB
import Derived.Lib.Bytealg
namespace Go.Proofs.YtgghcfmpfneehaaDoor
open Go.RowKit
def cmpI (a b : Int) : Int := if a < b then -1 else if b < a then 1 else 0
/-- The first that is not 0. -/
def orL : List Int → Int
  | [] => 0
  | x :: r => if x = 0 then orL r else x
/-- How one value stands to another. -/
def ord (k : Int) (b : Bool) (n : Int) (s : ByteArray) (u : Int) (k' : Int) (b' : Bool) (n' : Int) (s' : ByteArray) (u' : Int) : Int :=
  orL [cmpI k k', cmpI ((bt b).toNat : Int) ((bt b').toNat : Int), cmpI n n', Lib.compareBytes s.data.toList s'.data.toList, cmpI u u']
theorem cmpI_self (a : Int) : cmpI a a = 0 := by unfold cmpI; simp
theorem cmpI_lt (a b : Int) : decide (cmpI a b < 0) = decide (a < b) := by
  unfold cmpI
  by_cases h : a < b
  · simp [h]
  · by_cases h2 : b < a <;> simp [h, h2]
theorem cmpI_eq (a b : Int) : cmpI a b = 0 ↔ a = b := by
  unfold cmpI
  by_cases h : a < b
  · simp [h]; omega
  · by_cases h2 : b < a
    · simp [h, h2]; omega
    · simp [h, h2]; omega
theorem cmpB_self (l : List UInt8) : Lib.compareBytes l l = 0 := by
  induction l with
  | nil => rfl
  | cons c l ih => simp [Lib.compareBytes, ih]
theorem cmpB_lt (a b : List UInt8) : decide (Lib.compareBytes a b < 0) = Op.bytesLess a b := by
  induction a generalizing b with
  | nil => cases b <;> simp [Lib.compareBytes, Op.bytesLess]
  | cons x a ih =>
    cases b with
    | nil => simp [Lib.compareBytes, Op.bytesLess]
    | cons y b =>
      rcases byte_tri x y with h | h | h
      · simp [Lib.compareBytes, h, less_lt a b h]
      · subst h
        rw [less_same]
        simp [Lib.compareBytes, ih]
      · have h' : ¬ x < y := fun hh => by have := UInt8.lt_iff_toNat_lt.1 hh; have := UInt8.lt_iff_toNat_lt.1 h; omega
        simp [Lib.compareBytes, h, h', less_gt a b h]
theorem cmpB_eq (a b : List UInt8) : Lib.compareBytes a b = 0 ↔ a = b := by
  induction a generalizing b with
  | nil => cases b <;> simp [Lib.compareBytes]
  | cons x a ih =>
    cases b with
    | nil => simp [Lib.compareBytes]
    | cons y b =>
      rcases byte_tri x y with h | h | h
      · have : x ≠ y := fun e => by subst e; have := UInt8.lt_iff_toNat_lt.1 h; omega
        simp [Lib.compareBytes, h, this]
      · subst h; simp [Lib.compareBytes, ih]
      · have h' : ¬ x < y := fun hh => by have := UInt8.lt_iff_toNat_lt.1 hh; have := UInt8.lt_iff_toNat_lt.1 h; omega
        have : x ≠ y := fun e => by subst e; have := UInt8.lt_iff_toNat_lt.1 h; omega
        simp [Lib.compareBytes, h, h', this]
theorem or_zero (r : List Int) : orL (0 :: r) = orL r := by simp [orL]
theorem or_last (x : Int) : orL [x] = x := by by_cases h : x = 0 <;> simp [orL, h]
theorem or_first {x : Int} {r : List Int} (h : x ≠ 0) : orL (x :: r) = x := by simp [orL, h]
/-- Of two kinds the first field tells. -/
theorem ord_kinds {k k' : Int} (h : k ≠ k') (b : Bool) (n : Int) (s : ByteArray) (u : Int) (b' : Bool) (n' : Int) (s' : ByteArray) (u' : Int) : ord k b n s u k' b' n' s' u' = cmpI k k' := by
  unfold ord
  exact or_first (fun e => h ((cmpI_eq _ _).1 e))
theorem ord_1 (b b' : Bool) : ord 1 b 0 ⟨#[]⟩ 0 1 b' 0 ⟨#[]⟩ 0 = cmpI ((bt b).toNat : Int) ((bt b').toNat : Int) := by
  unfold ord
  rw [cmpI_self, cmpI_self, or_zero]
  by_cases h : cmpI ((bt b).toNat : Int) ((bt b').toNat : Int) = 0
  · rw [h]; simp [orL, Lib.compareBytes]
  · exact or_first h
theorem ord_2 (n n' : Int) : ord 2 false n ⟨#[]⟩ 0 2 false n' ⟨#[]⟩ 0 = cmpI n n' := by
  unfold ord
  rw [cmpI_self, cmpI_self, cmpI_self, or_zero, or_zero]
  by_cases h : cmpI n n' = 0
  · rw [h]; simp [orL, Lib.compareBytes]
  · exact or_first h
theorem ord_3 (s s' : ByteArray) : ord 3 false 0 s 0 3 false 0 s' 0 = Lib.compareBytes s.data.toList s'.data.toList := by
  unfold ord
  rw [cmpI_self, cmpI_self, cmpI_self, or_zero, or_zero, or_zero]
  by_cases h : Lib.compareBytes s.data.toList s'.data.toList = 0
  · rw [h]; simp [orL]
  · exact or_first h
theorem ord_4 (u u' : Int) : ord 4 false 0 ⟨#[]⟩ u 4 false 0 ⟨#[]⟩ u' = cmpI u u' := by
  unfold ord
  rw [cmpI_self, cmpI_self, cmpI_self, or_zero, or_zero, or_zero, cmpB_self, or_zero, or_last]
/-- The first byte of the bytes is the kind's. -/
theorem byt_kinds {c d : UInt8} (h : c ≠ d) (x y : List UInt8) : Op.bytesLess (c :: x) (d :: y) = decide (cmpI (c.toNat : Int) (d.toNat : Int) < 0) ∧ ((c :: x = d :: y) ↔ cmpI (c.toNat : Int) (d.toNat : Int) = 0) := by
  have hne : c.toNat ≠ d.toNat := fun e => h (UInt8.toNat_inj.1 e)
  refine ⟨?_, ?_⟩
  · rw [cmpI_lt]
    rcases byte_tri c d with h1 | h1 | h1
    · rw [less_lt x y h1]; have := UInt8.lt_iff_toNat_lt.1 h1; symm; apply decide_eq_true; omega
    · exact absurd h1 h
    · rw [less_gt x y h1]; have := UInt8.lt_iff_toNat_lt.1 h1; symm; apply decide_eq_false; omega
  · rw [cmpI_eq]
    constructor
    · intro e; injection e with e _; exact absurd e h
    · intro e; omega
/-- Of one kind: the bytes' order is the fields' order. -/
theorem byt_same {c : UInt8} {x y : List UInt8} {z : Int} (h1 : Op.bytesLess x y = decide (z < 0)) (h2 : x = y ↔ z = 0) : Op.bytesLess (c :: x) (c :: y) = decide (z < 0) ∧ ((c :: x = c :: y) ↔ z = 0) := by
  refine ⟨by rw [less_same]; exact h1, ?_⟩
  rw [← h2]; simp
theorem num_inj {a b : Nat} (ha : a < 2 ^ 64) (hb : b < 2 ^ 64) (h : num a = num b) : a = b := by
  have h1 := rNum_back a ha ⟨#[]⟩
  have h2 := rNum_back b hb ⟨#[]⟩
  rw [h] at h1
  rw [h1] at h2
  injection h2
theorem int_inj {a b : Int} (ha0 : -9223372036854775808 ≤ a) (ha1 : a < 9223372036854775808) (hb0 : -9223372036854775808 ≤ b) (hb1 : b < 9223372036854775808) (h : int8 a = int8 b) : a = b := by
  have h1 := rInt_back a ha0 ha1 ⟨#[]⟩
  have h2 := rInt_back b hb0 hb1 ⟨#[]⟩
  rw [h] at h1
  rw [h1] at h2
  injection h2
theorem key_inj {s t : ByteArray} (h : key s.data.toList = key t.data.toList) : s = t := by
  have h1 := rKey_back s ⟨#[]⟩
  have h2 := rKey_back t ⟨#[]⟩
  rw [h] at h1
  rw [h1] at h2
  injection h2
theorem byt_order {k : Int} {b : Bool} {n : Int} {s : ByteArray} {u : Int} {k' : Int} {b' : Bool} {n' : Int} {s' : ByteArray} {u' : Int} (h : mayV k b n s u) (h' : mayV k' b' n' s' u')
    (n0 : -9223372036854775808 ≤ n) (n1 : n < 9223372036854775808) (m0 : -9223372036854775808 ≤ n') (m1 : n' < 9223372036854775808) (u0 : 0 ≤ u) (u1 : u < 18446744073709551616) (v0 : 0 ≤ u') (v1 : u' < 18446744073709551616) :
    Op.bytesLess (byt k b n s u) (byt k' b' n' s' u') = decide (ord k b n s u k' b' n' s' u' < 0) ∧ (byt k b n s u = byt k' b' n' s' u' ↔ ord k b n s u k' b' n' s' u' = 0) := by
  rcases h with ⟨rfl, rfl, rfl, rfl⟩ | ⟨rfl, rfl, rfl, rfl⟩ | ⟨rfl, rfl, rfl, rfl, h⟩ | ⟨rfl, rfl, rfl, rfl, h⟩ <;>
  rcases h' with ⟨rfl, rfl, rfl, rfl⟩ | ⟨rfl, rfl, rfl, rfl⟩ | ⟨rfl, rfl, rfl, rfl, h'⟩ | ⟨rfl, rfl, rfl, rfl, h'⟩
  · rw [ord_1]
    refine byt_same (c := 1) (x := [bt b]) (y := [bt b']) ?_ ?_
    · cases b <;> cases b' <;> decide
    · cases b <;> cases b' <;> decide
  · rw [ord_kinds (by decide)]; exact byt_kinds (c := 1) (d := 2) (by decide) _ _
  · rw [ord_kinds (by decide)]; exact byt_kinds (c := 1) (d := 3) (by decide) _ _
  · rw [ord_kinds (by decide)]; exact byt_kinds (c := 1) (d := 4) (by decide) _ _
  · rw [ord_kinds (by decide)]; exact byt_kinds (c := 2) (d := 1) (by decide) _ _
  · rw [ord_2]
    refine byt_same (c := 2) (x := int8 n) (y := int8 n') ?_ ?_
    · rw [less_int n n' n0 n1 m0 m1, cmpI_lt]
    · rw [cmpI_eq]; exact ⟨int_inj n0 n1 m0 m1, fun e => by rw [e]⟩
  · rw [ord_kinds (by decide)]; exact byt_kinds (c := 2) (d := 3) (by decide) _ _
  · rw [ord_kinds (by decide)]; exact byt_kinds (c := 2) (d := 4) (by decide) _ _
  · rw [ord_kinds (by decide)]; exact byt_kinds (c := 3) (d := 1) (by decide) _ _
  · rw [ord_kinds (by decide)]; exact byt_kinds (c := 3) (d := 2) (by decide) _ _
  · rw [ord_3]
    refine byt_same (c := 3) (x := key s.data.toList) (y := key s'.data.toList) ?_ ?_
    · rw [less_key, cmpB_lt]
    · rw [cmpB_eq]; exact ⟨fun e => by rw [key_inj e], fun e => by rw [e]⟩
  · rw [ord_kinds (by decide)]; exact byt_kinds (c := 3) (d := 4) (by decide) _ _
  · rw [ord_kinds (by decide)]; exact byt_kinds (c := 4) (d := 1) (by decide) _ _
  · rw [ord_kinds (by decide)]; exact byt_kinds (c := 4) (d := 2) (by decide) _ _
  · rw [ord_kinds (by decide)]; exact byt_kinds (c := 4) (d := 3) (by decide) _ _
  · rw [ord_4]
    obtain ⟨a, rfl⟩ : ∃ a : Nat, u = (a : Int) := ⟨u.toNat, by omega⟩
    obtain ⟨c, rfl⟩ : ∃ c : Nat, u' = (c : Int) := ⟨u'.toNat, by omega⟩
    refine byt_same (c := 4) (x := num a) (y := num c) ?_ ?_
    · rw [less_num a c (by omega) (by omega), cmpI_lt]
      by_cases hh : a < c
      · rw [decide_eq_true hh]; symm; apply decide_eq_true; omega
      · rw [decide_eq_false hh]; symm; apply decide_eq_false; omega
    · rw [cmpI_eq]
      constructor
      · intro e; rw [num_inj (by omega) (by omega) e]
      · intro e; rw [show a = c by omega]
end Go.Proofs.YtgghcfmpfneehaaDoor
