/- Plain: the text of a sum is read back as that sum; worlds that have only grown, one behind the other. -/
import Derived.Test.YtncgfcmjeojocaaWalksB
namespace Go.Proofs.Ytncgfcmjeojocaa
open Go.RowKit

theorem grown_trans {a b c : World} (h : Grown a b) (k : Grown b c) : Grown a c :=
  ⟨World.keptBut_trans h.1 k.1, fun p => (k.2.1 p).trans (h.2.1 p), Nat.le_trans h.2.2 k.2.2⟩

theorem dval_digs : ∀ n : Fin 16, dval (digs[n.val]'n.isLt).toNat = some n.val := by decide
theorem dval_hd (x : BitVec 32) (k : Nat) : dval (hd x k).toNat = some (nib x k) := dval_digs ⟨nib x k, nib_lt x k⟩

theorem step_nat (a : BitVec 32) (x : BitVec 32) (k : Nat) (ha : a.toNat = x.toNat / 16 ^ (k + 1)) : (rdStep a (nib x k)).toNat = x.toNat / 16 ^ k := by
  have hn := nib_lt x k
  have e : x.toNat / 16 ^ (k + 1) = x.toNat / 16 ^ k / 16 := by rw [Nat.pow_succ, Nat.div_div_eq_div_mul]
  have hx : x.toNat / 16 ^ k < 4294967296 := Nat.lt_of_le_of_lt (Nat.div_le_self _ _) x.isLt
  have h := rd_or a (nib x k) hn
  have h2 : U a * (16 : Int) % 4294967296 = (((x.toNat / 16 ^ k / 16) * 16 : Nat) : Int) := by
    unfold U; rw [ha, e]; omega
  rw [h2, u32_or_nat _ _ (by omega) (by omega), nat_join 4 _ _ (by omega) (by omega)] at h
  unfold U nib at h
  unfold nib
  omega
theorem rdF_hd (x a : BitVec 32) (k : Nat) (ha : a.toNat = x.toNat / 16 ^ (k + 1)) : ∃ b : BitVec 32, rdF (some a) (hd x k) = some b ∧ b.toNat = x.toNat / 16 ^ k := by
  refine ⟨rdStep a (nib x k), ?_, step_nat a x k ha⟩
  unfold rdF; rw [dval_hd]; rfl
theorem rd_hexTo (x : BitVec 32) : ∀ (k : Nat) (a : BitVec 32), a.toNat = x.toNat / 16 ^ k → (hexTo x k).foldl rdF (some a) = some x
  | 0, a, h => by
    have : a = x := BitVec.eq_of_toNat_eq (by simpa using h)
    rw [this]; rfl
  | k + 1, a, h => by
    obtain ⟨b, hb, hb'⟩ := rdF_hd x a k h
    show List.foldl rdF (rdF (some a) (hd x k)) (hexTo x k) = some x
    rw [hb]; exact rd_hexTo x k b hb'
theorem rdv_hex (x : BitVec 32) : rdv ⟨(hex x).toArray⟩ = (x, 0) := by
  have h : rd (hex x) = some x := rd_hexTo x 8 0#32 (by
    have := x.isLt
    rw [Nat.div_eq_of_lt (by omega)]; rfl)
  unfold rdv
  rw [if_pos (show ByteArray.size ⟨(hex x).toArray⟩ = 8 from rfl)]
  show (match rd (hex x) with | some a => (a, (0 : Int)) | none => (0#32, 2)) = (x, 0)
  rw [h]

end Go.Proofs.Ytncgfcmjeojocaa
