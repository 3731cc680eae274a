/- Plain mathematics of order: the bytes of numbers, of numbers with a sign and of keys stand in the order of what they are of; no key begins another one. -/
import Derived.Test.YtgghcfmpfneehaaDoorBack
namespace Go.Proofs.YtgghcfmpfneehaaDoor
theorem less_cons (a b : UInt8) (x y : List UInt8) : Op.bytesLess (a :: x) (b :: y) = (decide (a < b) || (a == b && Op.bytesLess x y)) := rfl
theorem less_lt {a b : UInt8} (x y : List UInt8) (h : a < b) : Op.bytesLess (a :: x) (b :: y) = true := by rw [less_cons]; simp [h]
theorem less_gt {a b : UInt8} (x y : List UInt8) (h : b < a) : Op.bytesLess (a :: x) (b :: y) = false := by
  rw [less_cons]
  have h1 : ¬ a < b := by rw [UInt8.lt_iff_toNat_lt] at h ⊢; omega
  have h2 : a ≠ b := by intro e; rw [e, UInt8.lt_iff_toNat_lt] at h; omega
  simp [h1, h2]
theorem less_same (a : UInt8) (x y : List UInt8) : Op.bytesLess (a :: x) (a :: y) = Op.bytesLess x y := by
  rw [less_cons]
  have h1 : ¬ a < a := by rw [UInt8.lt_iff_toNat_lt]; omega
  simp [h1]
theorem byte_tri (a b : UInt8) : a < b ∨ a = b ∨ b < a := by
  simp only [UInt8.lt_iff_toNat_lt, ← UInt8.toNat_inj]; omega
theorem digits_lt (P a b u v : Nat) (ha : a < P) (h : u < v) : a + P * u < b + P * v := by
  have : P * (u + 1) ≤ P * v := Nat.mul_le_mul_left _ h
  rw [Nat.mul_add, Nat.mul_one] at this
  omega
theorem less_hf (n x y : Nat) : Op.bytesLess (hf x n) (hf y n) = decide (x % 256 ^ n < y % 256 ^ n) := by
  induction n with
  | zero => simp [hf, Op.bytesLess, Nat.mod_one]
  | succ n ih =>
    have hP : 0 < 256 ^ n := Nat.pow_pos (by omega)
    rw [hf, hf, Nat.pow_succ, Nat.mod_mul, Nat.mod_mul]
    have a1 := Nat.mod_lt x hP
    have a2 := Nat.mod_lt y hP
    rcases byte_tri (hb x n) (hb y n) with h | h | h
    · rw [less_lt _ _ h]
      rw [UInt8.lt_iff_toNat_lt, hb_toNat, hb_toNat] at h
      exact (decide_eq_true (digits_lt _ _ _ _ _ a1 h)).symm
    · rw [h, less_same, ih]
      have e := congrArg UInt8.toNat h
      rw [hb_toNat, hb_toNat] at e
      rw [e]
      congr 1
      rw [eq_iff_iff]
      omega
    · rw [less_gt _ _ h]
      rw [UInt8.lt_iff_toNat_lt, hb_toNat, hb_toNat] at h
      have := digits_lt _ _ (x % 256 ^ n) _ _ a2 h
      exact (decide_eq_false (by omega)).symm
theorem less_num (a b : Nat) (ha : a < 2 ^ 64) (hb' : b < 2 ^ 64) : Op.bytesLess (num a) (num b) = decide (a < b) := by
  have a8 := nb8 a ha
  have b8 := nb8 b hb'
  have ka := (nb_le a (nb a) ha a8).1 (Nat.le_refl _)
  have kb := (nb_le b (nb b) hb' b8).1 (Nat.le_refl _)
  have na : (UInt8.ofNat (nb a)).toNat = nb a := by rw [UInt8.toNat_ofNat']; omega
  have nbb : (UInt8.ofNat (nb b)).toNat = nb b := by rw [UInt8.toNat_ofNat']; omega
  unfold num
  rcases Nat.lt_trichotomy (nb a) (nb b) with h | h | h
  · rw [less_lt _ _ (by rw [UInt8.lt_iff_toNat_lt, na, nbb]; exact h)]
    have k := mt (nb_le b (nb a) hb' (by omega)).2 (by omega)
    exact (decide_eq_true (by omega)).symm
  · rw [← h, less_same, less_hf]
    rw [← h] at kb
    rw [Nat.pow_mul] at ka kb
    rw [Nat.mod_eq_of_lt ka, Nat.mod_eq_of_lt kb]
  · rw [less_gt _ _ (by rw [UInt8.lt_iff_toNat_lt, na, nbb]; exact h)]
    have k := mt (nb_le a (nb b) ha (by omega)).2 (by omega)
    exact (decide_eq_false (by omega)).symm
theorem less_int (i k : Int) (h0 : -9223372036854775808 ≤ i) (h1 : i < 9223372036854775808) (h2 : -9223372036854775808 ≤ k) (h3 : k < 9223372036854775808) : Op.bytesLess (int8 i) (int8 k) = decide (i < k) := by
  unfold int8
  rw [less_hf, Nat.mod_eq_of_lt (by omega), Nat.mod_eq_of_lt (by omega)]
  congr 1
  rw [eq_iff_iff]
  omega
theorem key_zero (t : List UInt8) : key (0 :: t) = 0 :: 255 :: key t := by simp [key, esc]
theorem key_other (c : UInt8) (t : List UInt8) (h : c ≠ 0) : key (c :: t) = c :: key t := by simp [key, esc, h]
theorem pos_byte {c : UInt8} (h : c ≠ 0) : 0 < c := by
  rw [UInt8.lt_iff_toNat_lt]
  have : c.toNat ≠ 0 := fun e => h (UInt8.toNat_inj.1 (by simpa using e))
  show 0 < c.toNat
  omega
theorem less_key (s t : List UInt8) : Op.bytesLess (key s) (key t) = Op.bytesLess s t := by
  induction s generalizing t with
  | nil =>
    cases t with
    | nil => rfl
    | cons d t =>
      by_cases hd : d = 0
      · rw [hd, key_zero]; rfl
      · rw [key_other d t hd]
        exact less_lt _ _ (pos_byte hd)
  | cons c s ih =>
    cases t with
    | nil =>
      by_cases hc : c = 0
      · rw [hc, key_zero]; rfl
      · rw [key_other c s hc]
        exact less_gt _ _ (pos_byte hc)
    | cons d t =>
      by_cases hc : c = 0
      · by_cases hd : d = 0
        · rw [hc, hd, key_zero, key_zero, less_same, less_same, less_same, ih]
        · rw [hc, key_zero, key_other d t hd, less_lt _ _ (pos_byte hd), less_lt _ _ (pos_byte hd)]
      · by_cases hd : d = 0
        · rw [hd, key_zero, key_other c s hc, less_gt _ _ (pos_byte hc), less_gt _ _ (pos_byte hc)]
        · rw [key_other c s hc, key_other d t hd, less_cons, less_cons, ih]
theorem key_apart (s t : ByteArray) (h : (⟨(key t.data.toList).toArray⟩ : ByteArray).extract 0 (key s.data.toList).length = ⟨(key s.data.toList).toArray⟩) : s = t := by
  have e := congrArg (fun b : ByteArray => b.data.toList) h
  simp only at e
  rw [ba_extract] at e
  have e2 : (key t.data.toList).take (key s.data.toList).length = key s.data.toList := by simpa using e
  have e3 : key t.data.toList = key s.data.toList ++ (key t.data.toList).drop (key s.data.toList).length := by
    conv => lhs; rw [← List.take_append_drop (key s.data.toList).length (key t.data.toList), e2]
  have k1 := kRun_back t.data.toList [] [] 0
  have k2 := kRun_back s.data.toList [] ((key t.data.toList).drop (key s.data.toList).length) 0
  rw [← e3] at k2
  rw [List.append_nil, k2] at k1
  have := (Prod.mk.inj k1).1
  simp only [List.nil_append] at this
  exact ba_ext this
end Go.Proofs.YtgghcfmpfneehaaDoor
