/- Plain: no bit pattern within 32 bits that stand together leaves the register as it was: the register's step can be undone. -/
import Derived.Test.YtncgfcmjeojocaaLinear
namespace Go.Proofs.Ytncgfcmjeojocaa

theorem tb_zero {x : BitVec 32} (h : tb x = 0#32) : x = 0#32 := by
  unfold tb at h
  have hb : ∀ i, i < 32 → (if x.getLsbD 0 = true then x >>> 1 ^^^ poly else x >>> 1).getLsbD i = false := fun i _ => by
    rw [h]; exact BitVec.getLsbD_zero
  cases hx : x.getLsbD 0
  · rw [hx] at hb
    apply BitVec.eq_of_getLsbD_eq
    intro i hi
    rw [BitVec.getLsbD_zero]
    cases i with
    | zero => exact hx
    | succ i =>
      have := hb i (by omega)
      rw [if_neg (by exact Bool.false_ne_true), BitVec.getLsbD_ushiftRight] at this
      rw [Nat.add_comm]; exact this
  · rw [hx] at hb
    have := hb 31 (by omega)
    rw [if_pos rfl, BitVec.getLsbD_xor, BitVec.getLsbD_ushiftRight, BitVec.getLsbD_of_ge x (1 + 31) (by omega)] at this
    exact absurd this (by decide)
theorem tbN_zero : ∀ (k : Nat) {x : BitVec 32}, tbN k x = 0#32 → x = 0#32
  | 0, _, h => h
  | k + 1, _, h => tbN_zero k (tb_zero h)
theorem itr_zero : ∀ (n : Nat) {x : BitVec 32}, itr turn n x = 0#32 → x = 0#32
  | 0, _, h => h
  | n + 1, _, h => tbN_zero 8 (itr_zero n h)
theorem xor_eq_zero {x y : BitVec 32} (h : x ^^^ y = 0#32) : x = y := by
  have := congrArg (fun z => z ^^^ y) h
  simpa [BitVec.xor_assoc] using this
theorem feed_inj (s : List UInt8) {x y : BitVec 32} (h : feed x s = feed y s) : x = y := by
  have e := feed_xor s y (x ^^^ y)
  rw [BitVec.xor_comm x y, ← BitVec.xor_assoc, BitVec.xor_self, BitVec.zero_xor, h] at e
  have z : itr turn s.length (y ^^^ x) = 0#32 := by
    have := congrArg (fun z => feed y s ^^^ z) e
    simp only [← BitVec.xor_assoc, BitVec.xor_self, BitVec.zero_xor] at this
    exact this.symm
  exact (xor_eq_zero (itr_zero _ z)).symm

theorem B_xor (c d : UInt8) : B (c ^^^ d) = B c ^^^ B d := by
  apply BitVec.eq_of_toNat_eq
  unfold B
  have h1 := c.toNat_lt
  have h2 := d.toNat_lt
  have h3 : (c.toNat ^^^ d.toNat) < 2 ^ 8 := Nat.xor_lt_two_pow h1 h2
  rw [BitVec.toNat_xor, BitVec.toNat_ofNat, BitVec.toNat_ofNat, BitVec.toNat_ofNat, UInt8.toNat_xor, Nat.mod_eq_of_lt (by omega), Nat.mod_eq_of_lt (by omega), Nat.mod_eq_of_lt (by omega)]

theorem tbN_add (a b : Nat) (x : BitVec 32) : tbN (a + b) x = tbN a (tbN b x) := by
  induction a with
  | zero => rw [Nat.zero_add]; rfl
  | succ a ih => rw [Nat.succ_add]; show tb (tbN (a + b) x) = tb (tbN a (tbN b x)); rw [ih]
theorem tbN_zero_eq (k : Nat) : tbN k 0#32 = 0#32 := by
  induction k with
  | zero => rfl
  | succ k ih => show tb (tbN k 0#32) = _; rw [ih]; rfl

/- A number that the step only moves: its low bits are 0. -/
theorem tb_even_nat (x : BitVec 32) (h : x.toNat % 2 = 0) : (tb x).toNat = x.toNat / 2 := by
  unfold tb
  have hx : x.getLsbD 0 = false := by
    rw [BitVec.getLsbD, Nat.testBit_zero]; simp [h]
  rw [hx, if_neg (by exact Bool.false_ne_true), BitVec.toNat_ushiftRight, Nat.shiftRight_eq_div_pow, Nat.pow_one]
theorem tbN_move : ∀ (k n : Nat), n * 2 ^ k < 2 ^ 32 → tbN k (BitVec.ofNat 32 (n * 2 ^ k)) = BitVec.ofNat 32 n
  | 0, n, _ => by simp [tbN]
  | k + 1, n, h => by
    have e : n * 2 ^ (k + 1) = (2 * n) * 2 ^ k := by rw [Nat.pow_succ]; simp [Nat.mul_comm, Nat.mul_assoc]
    have hk : 2 * n ≤ (2 * n) * 2 ^ k := Nat.le_mul_of_pos_right _ (Nat.pow_pos (by omega))
    rw [e] at h ⊢
    show tb (tbN k _) = _
    rw [tbN_move k (2 * n) h]
    have l2 : 2 * n < 2 ^ 32 := Nat.lt_of_le_of_lt hk h
    have e2 : (BitVec.ofNat 32 (2 * n)).toNat = 2 * n := by rw [BitVec.toNat_ofNat, Nat.mod_eq_of_lt l2]
    have e1 : (BitVec.ofNat 32 n).toNat = n := by rw [BitVec.toNat_ofNat, Nat.mod_eq_of_lt (by omega)]
    apply BitVec.eq_of_toNat_eq
    rw [tb_even_nat _ (by rw [e2]; omega), e2, e1]
    omega

def xb (X k : Nat) : UInt8 := UInt8.ofNat (X / 2 ^ (8 * k) % 256)
theorem xb_nat (X k : Nat) : (xb X k).toNat = X / 2 ^ (8 * k) % 256 := by
  unfold xb; rw [UInt8.toNat_ofNat']; omega
theorem B_xb (X k : Nat) : B (xb X k) = BitVec.ofNat 32 (X / 2 ^ (8 * k) % 256) := by unfold B; rw [xb_nat]

/- What five bytes make of a register that is 0: each byte, turned as often as bytes are left. -/
theorem feed_five (c0 c1 c2 c3 c4 : UInt8) : feed 0#32 [c0, c1, c2, c3, c4] = tbN 40 (B c0) ^^^ tbN 32 (B c1) ^^^ tbN 24 (B c2) ^^^ tbN 16 (B c3) ^^^ tbN 8 (B c4) := by
  show turn (turn (turn (turn (turn (0#32 ^^^ B c0) ^^^ B c1) ^^^ B c2) ^^^ B c3) ^^^ B c4) = _
  rw [BitVec.zero_xor]
  simp only [turn_xor]
  unfold turn
  simp only [← tbN_add]

theorem xor_disj (a b : Nat) (k : Nat) (ha : a % 2 ^ k = 0) (hb : b < 2 ^ k) : a ^^^ b = a + b := by
  have h := nat_join k a b ha hb
  have hd : a &&& b = 0 := by
    apply Nat.eq_of_testBit_eq
    intro i
    rw [Nat.testBit_and, Nat.zero_testBit]
    by_cases hi : i < k
    · have : a.testBit i = false := by
        have := Nat.testBit_mod_two_pow a k i
        rw [ha, Nat.zero_testBit] at this
        simpa [hi] using this.symm
      rw [this, Bool.false_and]
    · have : b.testBit i = false := Nat.testBit_lt_two_pow (Nat.lt_of_lt_of_le hb (Nat.pow_le_pow_right (by omega) (by omega)))
      rw [this, Bool.and_false]
  rw [← h]
  apply Nat.eq_of_testBit_eq
  intro i
  have hdi : (a &&& b).testBit i = false := by rw [hd, Nat.zero_testBit]
  rw [Nat.testBit_and] at hdi
  rw [Nat.testBit_xor, Nat.testBit_or]
  cases hA : a.testBit i <;> cases hB : b.testBit i <;> simp_all

theorem move_up (a b k n : Nat) (hab : a + k = b) (h : n * 2 ^ k < 2 ^ 32) : tbN a (BitVec.ofNat 32 n) = tbN b (BitVec.ofNat 32 (n * 2 ^ k)) := by
  rw [← hab, tbN_add, tbN_move k n h]
theorem move_down (a b k n : Nat) (hab : b + k = a) (h : n * 2 ^ k < 2 ^ 32) : tbN a (BitVec.ofNat 32 (n * 2 ^ k)) = tbN b (BitVec.ofNat 32 n) := by
  rw [← hab, tbN_add, tbN_move k n h]
theorem ofNat_xor (a b : Nat) : BitVec.ofNat 32 a ^^^ BitVec.ofNat 32 b = BitVec.ofNat 32 (a ^^^ b) := by
  apply BitVec.eq_of_getLsbD_eq
  intro i hi
  simp [hi]
theorem feed_shifted (t : Nat) (n0 c1 c2 c3 c4 Y : Nat) (C0 C1 C2 C3 C4 : UInt8) (ht : t ≤ 8) (h0 : C0.toNat = n0 * 2 ^ (8 - t)) (h1 : C1.toNat = c1) (h2 : C2.toNat = c2) (h3 : C3.toNat = c3) (h4 : C4.toNat = c4)
    (b0 : n0 < 2 ^ t) (b4 : c4 * 2 ^ (24 + t) < 2 ^ 32) (hY : Y < 2 ^ 32) (hsum : Y = n0 + c1 * 2 ^ t + c2 * 2 ^ (8 + t) + c3 * 2 ^ (16 + t) + c4 * 2 ^ (24 + t)) :
    feed 0#32 [C0, C1, C2, C3, C4] = tbN (32 + t) (BitVec.ofNat 32 Y) := by
  have l1 := C1.toNat_lt
  have l2 := C2.toNat_lt
  have l3 := C3.toNat_lt
  have g1 : c1 * 2 ^ t < 2 ^ (8 + t) := by rw [Nat.pow_add]; exact Nat.mul_lt_mul_of_pos_right (by omega) (Nat.pow_pos (by omega))
  have g2 : c2 * 2 ^ (8 + t) < 2 ^ (16 + t) := by rw [show 16 + t = 8 + (8 + t) by omega, Nat.pow_add 2 8 (8 + t)]; exact Nat.mul_lt_mul_of_pos_right (by omega) (Nat.pow_pos (by omega))
  have g3 : c3 * 2 ^ (16 + t) < 2 ^ (24 + t) := by rw [show 24 + t = 8 + (16 + t) by omega, Nat.pow_add 2 8 (16 + t)]; exact Nat.mul_lt_mul_of_pos_right (by omega) (Nat.pow_pos (by omega))
  have p1 : 2 ^ (8 + t) ≤ 2 ^ 32 := Nat.pow_le_pow_right (by omega) (by omega)
  have p2 : 2 ^ (16 + t) ≤ 2 ^ 32 := Nat.pow_le_pow_right (by omega) (by omega)
  have p3 : 2 ^ (24 + t) ≤ 2 ^ 32 := Nat.pow_le_pow_right (by omega) (by omega)
  have z0 : n0 * 2 ^ (8 - t) < 2 ^ 32 := by have := C0.toNat_lt; omega
  rw [feed_five]
  unfold B
  rw [h0, h1, h2, h3, h4, move_down 40 (32 + t) (8 - t) n0 (by omega) z0, move_up 32 (32 + t) t c1 rfl (by omega), move_up 24 (32 + t) (8 + t) c2 (by omega) (by omega),
    move_up 16 (32 + t) (16 + t) c3 (by omega) (by omega), move_up 8 (32 + t) (24 + t) c4 (by omega) b4, ← tbN_xor, ← tbN_xor, ← tbN_xor, ← tbN_xor, ofNat_xor, ofNat_xor, ofNat_xor, ofNat_xor]
  congr 2
  rw [Nat.xor_comm n0, xor_disj (c1 * 2 ^ t) n0 t (Nat.mul_mod_left _ _) b0]
  rw [Nat.xor_comm _ (c2 * 2 ^ (8 + t)), xor_disj (c2 * 2 ^ (8 + t)) _ (8 + t) (Nat.mul_mod_left _ _) (by
    have : (c1 + 1) * 2 ^ t ≤ 2 ^ 8 * 2 ^ t := Nat.mul_le_mul_right _ (by omega)
    rw [← Nat.pow_add, Nat.add_mul] at this; omega)]
  rw [Nat.xor_comm _ (c3 * 2 ^ (16 + t)), xor_disj (c3 * 2 ^ (16 + t)) _ (16 + t) (Nat.mul_mod_left _ _) (by
    have q1 : (c1 + 1) * 2 ^ t ≤ 2 ^ 8 * 2 ^ t := Nat.mul_le_mul_right _ (by omega)
    rw [← Nat.pow_add, Nat.add_mul] at q1
    have q2 : (c2 + 1) * 2 ^ (8 + t) ≤ 2 ^ 8 * 2 ^ (8 + t) := Nat.mul_le_mul_right _ (by omega)
    rw [← Nat.pow_add, Nat.add_mul, show 8 + (8 + t) = 16 + t by omega] at q2; omega)]
  rw [Nat.xor_comm _ (c4 * 2 ^ (24 + t)), xor_disj (c4 * 2 ^ (24 + t)) _ (24 + t) (Nat.mul_mod_left _ _) (by
    have q1 : (c1 + 1) * 2 ^ t ≤ 2 ^ 8 * 2 ^ t := Nat.mul_le_mul_right _ (by omega)
    rw [← Nat.pow_add, Nat.add_mul] at q1
    have q2 : (c2 + 1) * 2 ^ (8 + t) ≤ 2 ^ 8 * 2 ^ (8 + t) := Nat.mul_le_mul_right _ (by omega)
    rw [← Nat.pow_add, Nat.add_mul, show 8 + (8 + t) = 16 + t by omega] at q2
    have q3 : (c3 + 1) * 2 ^ (16 + t) ≤ 2 ^ 8 * 2 ^ (16 + t) := Nat.mul_le_mul_right _ (by omega)
    rw [← Nat.pow_add, Nat.add_mul, show 8 + (16 + t) = 24 + t by omega] at q3; omega)]
  omega
theorem lt8' {k : Nat} (h : k ≤ 7) : k = 0 ∨ k = 1 ∨ k = 2 ∨ k = 3 ∨ k = 4 ∨ k = 5 ∨ k = 6 ∨ k = 7 := by omega
theorem feed_pattern (y : BitVec 32) (s X : Nat) (hs : s ≤ 7) (hX : X = y.toNat * 2 ^ s) :
    feed 0#32 [xb X 0, xb X 1, xb X 2, xb X 3, xb X 4] = tbN (32 + (8 - s)) y := by
  have hy := y.isLt
  have e := feed_shifted (8 - s) (X % 256 / 2 ^ s) (X / 2 ^ 8 % 256) (X / 2 ^ 16 % 256) (X / 2 ^ 24 % 256) (X / 2 ^ 32 % 256) y.toNat (xb X 0) (xb X 1) (xb X 2) (xb X 3) (xb X 4) (by omega)
    (by rw [xb_nat, show 8 - (8 - s) = s by omega, hX]; rcases lt8' hs with rfl | rfl | rfl | rfl | rfl | rfl | rfl | rfl <;> simp <;> omega)
    (xb_nat X 1) (xb_nat X 2) (xb_nat X 3) (xb_nat X 4)
    (by rcases lt8' hs with rfl | rfl | rfl | rfl | rfl | rfl | rfl | rfl <;> simp <;> omega)
    (by rw [hX]; rcases lt8' hs with rfl | rfl | rfl | rfl | rfl | rfl | rfl | rfl <;> simp <;> omega)
    hy
    (by rw [hX]; rcases lt8' hs with rfl | rfl | rfl | rfl | rfl | rfl | rfl | rfl <;> simp <;> omega)
  rw [e]; simp
theorem pattern_seen (y : BitVec 32) (s X : Nat) (hs : s ≤ 7) (hX : X = y.toNat * 2 ^ s) (hy : y ≠ 0#32) : feed 0#32 [xb X 0, xb X 1, xb X 2, xb X 3, xb X 4] ≠ 0#32 := fun h => by
  rw [feed_pattern y s X hs hX] at h
  exact hy (tbN_zero _ h)
theorem feed_xor2 : ∀ (m d : List UInt8) (x z : BitVec 32), m.length = d.length → feed (x ^^^ z) (List.zipWith (· ^^^ ·) m d) = feed x m ^^^ feed z d
  | [], [], _, _, _ => rfl
  | c :: m, e :: d, x, z, h => by
    show feed (turn (x ^^^ z ^^^ B (c ^^^ e))) (List.zipWith (· ^^^ ·) m d) = feed (turn (x ^^^ B c)) m ^^^ feed (turn (z ^^^ B e)) d
    rw [← feed_xor2 m d _ _ (by simpa using h), B_xor, ← turn_xor]
    congr 2
    rw [BitVec.xor_assoc, BitVec.xor_assoc, ← BitVec.xor_assoc z, BitVec.xor_comm z (B c), BitVec.xor_assoc (B c)]
theorem noticed (P m Q : List UInt8) (y : BitVec 32) (s X : Nat) (hm : m.length = 5) (hs : s ≤ 7) (hX : X = y.toNat * 2 ^ s) (hy : y ≠ 0#32) :
    more 0#32 (P ++ List.zipWith (· ^^^ ·) m [xb X 0, xb X 1, xb X 2, xb X 3, xb X 4] ++ Q) ≠ more 0#32 (P ++ m ++ Q) := fun h => by
  unfold more at h
  have h' := congrArg (fun z => ~~~z) h
  simp only [BitVec.not_not, feed_append] at h'
  have h2 := feed_inj Q h'
  generalize feed (~~~0#32) P = A at h2
  have h3 := feed_xor2 m [xb X 0, xb X 1, xb X 2, xb X 3, xb X 4] A 0#32 (by rw [hm]; rfl)
  rw [BitVec.xor_zero, h2] at h3
  have h4 := congrArg (fun z => feed A m ^^^ z) h3
  simp only [← BitVec.xor_assoc, BitVec.xor_self, BitVec.zero_xor] at h4
  exact pattern_seen y s X hs hX hy h4.symm

end Go.Proofs.Ytncgfcmjeojocaa
