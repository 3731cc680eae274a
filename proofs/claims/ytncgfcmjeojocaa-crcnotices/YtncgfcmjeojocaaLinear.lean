/- Plain: the register's step is linear; squaring a map of registers again and again makes any number of its steps; sums of two texts, one behind the other, come from their own sums. -/
import Derived.Test.YtncgfcmjeojocaaWalksC
namespace Go.Proofs.Ytncgfcmjeojocaa

theorem tb_xor (x y : BitVec 32) : tb (x ^^^ y) = tb x ^^^ tb y := by
  unfold tb
  rw [BitVec.getLsbD_xor, BitVec.ushiftRight_xor_distrib]
  cases x.getLsbD 0 <;> cases y.getLsbD 0
  · rfl
  · simp only [Bool.false_xor, if_true, Bool.false_eq_true, if_false]; rw [BitVec.xor_assoc]
  · simp only [Bool.xor_false, if_true, Bool.false_eq_true, if_false]
    rw [BitVec.xor_assoc, BitVec.xor_comm (y >>> 1) poly, ← BitVec.xor_assoc]
  · simp only [Bool.xor_self, if_true, Bool.false_eq_true, if_false]
    rw [BitVec.xor_assoc, BitVec.xor_comm (y >>> 1) poly, ← BitVec.xor_assoc poly poly, BitVec.xor_self, BitVec.zero_xor]
theorem tbN_xor (k : Nat) (x y : BitVec 32) : tbN k (x ^^^ y) = tbN k x ^^^ tbN k y := by
  induction k with
  | zero => rfl
  | succ k ih => show tb (tbN k (x ^^^ y)) = _; rw [ih, tb_xor]; rfl
theorem turn_xor (x y : BitVec 32) : turn (x ^^^ y) = turn x ^^^ turn y := tbN_xor 8 x y

def IsLin (L : BitVec 32 → BitVec 32) : Prop := ∀ x y, L (x ^^^ y) = L x ^^^ L y
theorem IsLin.zero {L : BitVec 32 → BitVec 32} (h : IsLin L) : L 0#32 = 0#32 := by
  have := h 0#32 0#32
  rw [BitVec.xor_self, BitVec.xor_self] at this
  exact this
theorem IsLin.comp {L K : BitVec 32 → BitVec 32} (h : IsLin L) (k : IsLin K) : IsLin (fun x => L (K x)) := fun x y => by
  show L (K (x ^^^ y)) = _
  rw [k, h]

def low (x : BitVec 32) (k : Nat) : BitVec 32 := BitVec.ofNat 32 (x.toNat % 2 ^ k)
theorem low_bit (x : BitVec 32) (k i : Nat) : (low x k).getLsbD i = (decide (i < k) && x.getLsbD i) := by
  unfold low
  rw [BitVec.getLsbD_ofNat, Nat.testBit_mod_two_pow]
  by_cases hi : i < 32
  · simp [hi, BitVec.getLsbD]
  · have : x.getLsbD i = false := BitVec.getLsbD_of_ge x i (by omega)
    simp [hi, this]
theorem low_t (x : BitVec 32) (k : Nat) (hk : k < 32) (h : x.getLsbD k = true) : low x (k + 1) = low x k ^^^ (1#32 <<< k) := by
  apply BitVec.eq_of_getLsbD_eq
  intro i hi
  rw [BitVec.getLsbD_xor, low_bit, low_bit, BitVec.getLsbD_shiftLeft, BitVec.getLsbD_one]
  by_cases e : i = k
  · subst e; simp [h, hi]
  · by_cases l : i < k
    · simp [l, show i < k + 1 by omega]
    · have h1 : ¬ i < k + 1 := by omega
      have h2 : ¬ i - k = 0 := by omega
      simp [l, h1, h2]
theorem low_f (x : BitVec 32) (k : Nat) (h : x.getLsbD k = false) : low x (k + 1) = low x k := by
  apply BitVec.eq_of_getLsbD_eq
  intro i hi
  rw [low_bit, low_bit]
  by_cases e : i = k
  · subst e; simp [h]
  · have : (i < k + 1) = (i < k) := by apply propext; omega
    simp [this]
theorem low_all (x : BitVec 32) : low x 32 = x := by
  apply BitVec.eq_of_getLsbD_eq
  intro i hi
  rw [low_bit]; simp [hi]
theorem low_none (x : BitVec 32) : low x 0 = 0#32 := by
  unfold low; simp [Nat.mod_one]

theorem tab_get (f : Nat → BitVec 32) (k : Nat) (h : k < 32) : (tab f).getD k 0#32 = f k := by
  unfold tab; simp [h]
theorem times_lin {L : BitVec 32 → BitVec 32} (h : IsLin L) (x : BitVec 32) : ∀ k, k ≤ 32 → timesTo (tab fun i => L (1#32 <<< i)) x k = L (low x k)
  | 0, _ => by rw [low_none, h.zero]; rfl
  | k + 1, hk => by
    have ih := times_lin h x k (by omega)
    cases hx : x.getLsbD k
    · rw [timesTo_f hx, low_f x k hx, ih]
    · rw [timesTo_t hx, low_t x k (by omega) hx, ih, h, tab_get _ k (by omega)]
theorem times_all {L : BitVec 32 → BitVec 32} (h : IsLin L) (x : BitVec 32) : timesTo (tab fun i => L (1#32 <<< i)) x 32 = L x := by
  rw [times_lin h x 32 (Nat.le_refl _), low_all]
theorem sq_lin {L : BitVec 32 → BitVec 32} (h : IsLin L) : tab (sqof (tab fun i => L (1#32 <<< i))) = tab fun i => L (L (1#32 <<< i)) := by
  unfold tab
  apply List.map_congr_left
  intro i hi
  show timesTo (tab fun i => L (1#32 <<< i)) ((tab fun i => L (1#32 <<< i)).getD i 0#32) 32 = _
  rw [times_all h, tab_get _ i (List.mem_range.1 hi)]

def itr (L : BitVec 32 → BitVec 32) : Nat → BitVec 32 → BitVec 32
  | 0, x => x
  | n + 1, x => itr L n (L x)
theorem itr_two (L : BitVec 32 → BitVec 32) (n : Nat) : ∀ x, itr L (2 * n) x = itr (fun y => L (L y)) n x := by
  induction n with
  | zero => intro x; rfl
  | succ n ih =>
    intro x
    show itr L (2 * n + 1 + 1) x = itr (fun y => L (L y)) n (L (L x))
    rw [← ih]; rfl
theorem behF_lin : ∀ (f : Nat) (L : BitVec 32 → BitVec 32) (_ : IsLin L) (r : BitVec 32) (n : Nat), n < 2 ^ f → behF f (tab fun i => L (1#32 <<< i)) r n = itr L n r
  | 0, L, _, r, n, hn => by
    have : n = 0 := by simpa using hn
    subst this; rfl
  | f + 1, L, h, r, n, hn => by
    rw [Nat.pow_succ] at hn
    by_cases h0 : n = 0
    · subst h0; rw [behF_zero]; rfl
    · by_cases h1 : n % 2 = 1
      · rw [behF_odd _ _ _ _ h1, sq_lin h, times_all h, behF_lin f (fun y => L (L y)) (h.comp h) _ _ (by omega), ← itr_two]
        have e : n = 2 * (n / 2) + 1 := by omega
        conv => rhs; rw [e]
        rfl
      · rw [behF_even _ _ _ _ h0 (by omega), sq_lin h, behF_lin f (fun y => L (L y)) (h.comp h) _ _ (by omega), ← itr_two]
        have e : n = 2 * (n / 2) := by omega
        conv => rhs; rw [e]
theorem beh_turn (x : BitVec 32) (n : Nat) (h : n < 2 ^ 64) : beh x n = itr turn n x := behF_lin 64 turn turn_xor x n h

theorem feed_zeros (r : BitVec 32) (n : Nat) : feed r (List.replicate n 0) = itr turn n r := by
  induction n generalizing r with
  | zero => rfl
  | succ n ih =>
    rw [List.replicate_succ]
    show feed (turn (r ^^^ B 0)) (List.replicate n 0) = itr turn n (turn r)
    rw [ih, show B 0 = 0#32 from rfl, BitVec.xor_zero]
theorem feed_xor (s : List UInt8) : ∀ x y : BitVec 32, feed (x ^^^ y) s = feed x s ^^^ itr turn s.length y := by
  induction s with
  | nil => intro x y; rfl
  | cons c s ih =>
    intro x y
    show feed (turn (x ^^^ y ^^^ B c)) s = feed (turn (x ^^^ B c)) s ^^^ itr turn s.length (turn y)
    rw [← ih, ← turn_xor]
    congr 2
    rw [BitVec.xor_assoc, BitVec.xor_comm y, ← BitVec.xor_assoc]
theorem noughts_more (x : BitVec 32) (a : List UInt8) (n : Nat) (h : n < 2 ^ 64) : ~~~(beh (~~~(more x a)) n) = more x (a ++ List.replicate n 0) := by
  unfold more
  rw [BitVec.not_not, beh_turn _ _ h, feed_append, feed_zeros]
theorem join_more (a b : List UInt8) (h : b.length < 2 ^ 64) : beh (more 0#32 a) b.length ^^^ more 0#32 b = more 0#32 (a ++ b) := by
  rw [beh_turn _ _ h]
  unfold more
  rw [feed_append]
  generalize feed (~~~0#32) a = A
  have e : ~~~0#32 ^^^ ~~~A = A := by
    rw [show ~~~0#32 = BitVec.allOnes 32 from by decide, BitVec.allOnes_xor, BitVec.not_not]
  have h1 : feed A b = feed (~~~0#32) b ^^^ itr turn b.length (~~~A) := by
    conv => lhs; rw [← e]
    exact feed_xor b _ _
  rw [h1]
  generalize feed (~~~0#32) b = F
  generalize itr turn b.length (~~~A) = X
  rw [BitVec.not_xor_left, BitVec.xor_comm]

end Go.Proofs.Ytncgfcmjeojocaa
