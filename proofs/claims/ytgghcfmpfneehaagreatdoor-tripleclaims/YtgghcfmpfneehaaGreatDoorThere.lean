/- Plain mathematics: numbers as bytes, the highest first, there and back. -/
import Derived.Test.YtgghcfmpfneehaaGreatDoorWalksB
namespace Go.Proofs.YtgghcfmpfneehaaGreatDoor
theorem hb_toNat (x k : Nat) : (hb x k).toNat = x / 256 ^ k % 256 := by
  unfold hb; rw [UInt8.toNat_ofNat', Nat.pow_mul]
theorem bg_go (l : List UInt8) (a : Nat) : l.foldl (fun a c => a * 256 + c.toNat) a = a * 256 ^ l.length + bg l := by
  unfold bg
  induction l generalizing a with
  | nil => simp
  | cons c l ih =>
    rw [List.foldl_cons, List.foldl_cons, ih, ih (0 * 256 + c.toNat), List.length_cons, Nat.pow_succ]
    have e : (a * 256 + c.toNat) * 256 ^ l.length = a * (256 ^ l.length * 256) + c.toNat * 256 ^ l.length := by
      rw [Nat.add_mul, Nat.mul_assoc, Nat.mul_comm 256]
    rw [e, Nat.zero_mul, Nat.zero_add]; omega
theorem bg_cons (c : UInt8) (l : List UInt8) : bg (c :: l) = c.toNat * 256 ^ l.length + bg l := by
  have h := bg_go l c.toNat
  unfold bg at h ⊢
  rw [List.foldl_cons, Nat.zero_mul, Nat.zero_add]; exact h
theorem bg_hf (x n : Nat) : bg (hf x n) = x % 256 ^ n := by
  induction n with
  | zero => simp [hf, bg, Nat.mod_one]
  | succ n ih =>
    rw [hf, bg_cons, ih, hf_len, hb_toNat, Nat.pow_succ, Nat.mod_mul]
    rw [Nat.mul_comm]; omega
theorem hf_mod (x y n : Nat) (h : x % 256 ^ n = y % 256 ^ n) : hf x n = hf y n := by
  induction n with
  | zero => rfl
  | succ n ih =>
    rw [Nat.pow_succ] at h
    have h1 : x % 256 ^ n = y % 256 ^ n := by
      have := congrArg (· % 256 ^ n) h
      simpa [Nat.mod_mul_right_mod] using this
    have h2 : x / 256 ^ n % 256 = y / 256 ^ n % 256 := by
      have := congrArg (· / 256 ^ n) h
      simpa [Nat.mod_mul_right_div_self] using this
    rw [hf, hf, ih h1]
    congr 1
    apply UInt8.toNat_inj.1
    rw [hb_toNat, hb_toNat, h2]
theorem hf_bg (l : List UInt8) : hf (bg l) l.length = l := by
  induction l with
  | nil => rfl
  | cons c l ih =>
    have hb := bg_lt l
    rw [List.length_cons, hf, bg_cons]
    congr 1
    · apply UInt8.toNat_inj.1
      rw [hb_toNat, Nat.mul_comm, Nat.mul_add_div (Nat.pow_pos (by omega)), Nat.div_eq_of_lt hb, Nat.add_zero]
      exact Nat.mod_eq_of_lt c.toNat_lt
    · rw [hf_mod _ (bg l) _ (by rw [Nat.mul_comm, Nat.mul_add_mod]), ih]
theorem hf_eq_iff (c : Nat) (l : List UInt8) (hc : c < 256 ^ l.length) : hf c l.length = l ↔ bg l = c := by
  constructor
  · intro h
    have := bg_hf c l.length
    rw [h, Nat.mod_eq_of_lt hc] at this
    exact this
  · rintro rfl; exact hf_bg l
end Go.Proofs.YtgghcfmpfneehaaGreatDoor
