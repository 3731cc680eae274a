/- Plain mathematics of the CRC-32 register over 32 bits: one step of a bit, of a byte, of a text; no Go in it. -/
import Derived.Laws.BitsAllLaws
namespace Go.Proofs.Ytahbhalfilcmiaa

def U (x : BitVec 32) : Int := (x.toNat : Int)

theorem U_lo (x : BitVec 32) : 0 ≤ U x := by unfold U; omega
theorem U_hi (x : BitVec 32) : U x < 4294967296 := by have := x.isLt; unfold U; omega
theorem U_inj {x y : BitVec 32} (h : U x = U y) : x = y := by
  apply BitVec.eq_of_toNat_eq; unfold U at h; omega
theorem U_of (a : Int) (h0 : 0 ≤ a) (h1 : a < 4294967296) : ∃ x : BitVec 32, a = U x :=
  ⟨BitVec.ofNat 32 a.toNat, by unfold U; rw [BitVec.toNat_ofNat, Nat.mod_eq_of_lt (by omega)]; omega⟩
theorem U_beq (x y : BitVec 32) : (U x == U y) = (x == y) := by
  rw [Bool.eq_iff_iff, beq_iff_eq, beq_iff_eq]
  exact ⟨U_inj, fun h => by rw [h]⟩
theorem U_xor (x y : BitVec 32) : bits .xor .u32 (U x) (U y) = U (x ^^^ y) := by
  unfold U; rw [u32_xor_nat _ _ x.isLt y.isLt, BitVec.toNat_xor]
theorem U_or (x y : BitVec 32) : bits .or .u32 (U x) (U y) = U (x ||| y) := by
  unfold U; rw [u32_or_nat _ _ x.isLt y.isLt, BitVec.toNat_or]
theorem U_and (x y : BitVec 32) : bits .and .u32 (U x) (U y) = U (x &&& y) := by
  unfold U; rw [u32_and_nat _ _ x.isLt y.isLt, BitVec.toNat_and]
theorem xor_ones (x : BitVec 32) : x ^^^ 4294967295#32 = ~~~x := by
  rw [show 4294967295#32 = BitVec.allOnes 32 from by decide, BitVec.xor_allOnes]
theorem U_ones (x : BitVec 32) : bits .xor .u32 (U x) 4294967295 = U (~~~x) := by
  have h : (4294967295 : Int) = U 4294967295#32 := by decide
  rw [h, U_xor, xor_ones]
theorem U_not (x : BitVec 32) : bits .xor .u32 IntKind.u32.max (U x) = U (~~~x) := by
  have h : IntKind.u32.max = U 4294967295#32 := by decide
  rw [h, U_xor, BitVec.xor_comm, xor_ones]
theorem U_shr (x : BitVec 32) (k : Nat) : U x / (2 : Int) ^ k = U (x >>> k) := by
  unfold U; rw [BitVec.toNat_ushiftRight, Nat.shiftRight_eq_div_pow]; simp
theorem U_half (x : BitVec 32) : U x / (2 : Int) = U (x >>> 1) := by
  rw [← U_shr x 1, Int.pow_one]

def poly : BitVec 32 := 3988292384#32
def tb (x : BitVec 32) : BitVec 32 := if x.getLsbD 0 then (x >>> 1) ^^^ poly else x >>> 1
def tbN : Nat → BitVec 32 → BitVec 32
  | 0, x => x
  | k + 1, x => tb (tbN k x)
def turn (x : BitVec 32) : BitVec 32 := tbN 8 x
def B (c : UInt8) : BitVec 32 := BitVec.ofNat 32 c.toNat
def feed : BitVec 32 → List UInt8 → BitVec 32
  | r, [] => r
  | r, c :: s => feed (turn (r ^^^ B c)) s
def more (sum : BitVec 32) (s : List UInt8) : BitVec 32 := ~~~(feed (~~~sum) s)

theorem U_B (c : UInt8) : (c.toNat : Int) = U (B c) := by
  unfold U B; rw [BitVec.toNat_ofNat, Nat.mod_eq_of_lt (by have := c.toNat_lt; omega)]
theorem odd_iff (x : BitVec 32) : (bits .and .u32 (U x) 1 == 1) = x.getLsbD 0 := by
  have e : bits .and .u32 (U x) 1 = ((x.toNat % 2 : Nat) : Int) := by
    unfold U; rw [show (1 : Int) = ((1 : Nat) : Int) from rfl, u32_and_nat _ _ x.isLt (by omega), nat_mask1]
  rw [e, BitVec.getLsbD, Nat.testBit_zero, Bool.eq_iff_iff, beq_iff_eq, decide_eq_true_iff]
  omega
theorem tb_odd {x : BitVec 32} (h : (bits .and .u32 (U x) 1 == 1) = true) : bits .xor .u32 (U x / 2) 3988292384 = U (tb x) := by
  rw [odd_iff] at h
  have e : (3988292384 : Int) = U poly := by decide
  rw [e, U_half, U_xor]; unfold tb; rw [if_pos h]
theorem tb_even {x : BitVec 32} (h : (bits .and .u32 (U x) 1 == 1) = false) : U x / 2 = U (tb x) := by
  rw [odd_iff] at h
  rw [U_half]; unfold tb; rw [if_neg (by rw [h]; exact Bool.false_ne_true)]

theorem feed_append (r : BitVec 32) (s t : List UInt8) : feed r (s ++ t) = feed (feed r s) t := by
  induction s generalizing r with
  | nil => rfl
  | cons c s ih => simp only [List.cons_append, feed]; exact ih _
theorem more_append (r : BitVec 32) (s t : List UInt8) : more (more r s) t = more r (s ++ t) := by
  unfold more; rw [BitVec.not_not, feed_append]
theorem feed_snoc (r : BitVec 32) (s : ByteArray) (k : Nat) (h : k < s.size) :
    feed r (s.data.toList.take (k + 1)) = turn (feed r (s.data.toList.take k) ^^^ B s[k]) := by
  rw [List.take_succ_eq_append_getElem (by simpa using h), feed_append]; rfl
theorem more_digits : more 0#32 [49, 50, 51, 52, 53, 54, 55, 56, 57] = 3421780262#32 := by decide +kernel

end Go.Proofs.Ytahbhalfilcmiaa
