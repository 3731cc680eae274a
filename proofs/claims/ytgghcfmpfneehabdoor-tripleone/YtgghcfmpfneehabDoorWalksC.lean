/- What the program's and the document's Num, Int and Text return; for every number and every text. -/
import Derived.Test.YtgghcfmpfneehabDoorWalksB
import Derived.Deep.RegionHeld3
namespace Go.Proofs.YtgghcfmpfneehabDoor
open Go.RowKit
theorem len64_any (x : Nat) (h : x < 2 ^ 64) (w : World) :
    Calls Tryd.prog 42 #[.int .u64 (x : Int)] w fun e w' => e = .returned (.int .i64 (Lib.bitLen x : Int)) ∧ w' = w := by
  have h := len64_int x w (by omega) (by omega)
  rw [Int.toNat_natCast] at h
  exact h
def num (x : Nat) : List UInt8 := UInt8.ofNat (nb x) :: hf x (nb x)
theorem conv_one (n : Nat) (hn : n ≤ 8) (W : World) (b : Nat) (h : W.heap[b]? = some (.cells #[.int .u8 (n : Int)] 5)) :
    (convert 62 9 (.slice (some ⟨b, 0, none⟩) 1 1)).run Tryd.prog W = .ok (.string ⟨#[UInt8.ofNat n]⟩) W := by
  refine conv_row W b 1 1 [UInt8.ofNat n] #[] (0, 0) 5 rfl ?_
  rw [h]
  simp [vs, vb]
  omega
theorem conv_new (n : Nat) (hn : n ≤ 8) (W : World) : (convert 62 9 (.slice (some ⟨W.heap.size, 0, none⟩) 1 1)).run Tryd.prog (W.alloc (.cells #[.int .u8 (n : Int)] 5)) = .ok (.string ⟨#[UInt8.ofNat n]⟩) (W.alloc (.cells #[.int .u8 (n : Int)] 5)) :=
  conv_one n hn _ _ (heap_alloc_new W _)
theorem conv_new' (n : Nat) (hn : n ≤ 8) (W : World) : (convert 62 9 (.slice (some ⟨W.heap.size, 0, none⟩) 1 1)).run Tryd.prog (W.alloc (.cells #[.int .u8 (n : Int)] 5)).drew = .ok (.string ⟨#[UInt8.ofNat n]⟩) (W.alloc (.cells #[.int .u8 (n : Int)] 5)).drew :=
  conv_one n hn _ _ (heap_alloc_new W _)
theorem conv_then {n : Nat} (hn : n ≤ 8) {W W' : World} (hb : Bel (W.alloc (.cells #[.int .u8 (n : Int)] 5)).drew W') : (convert 62 9 (.slice (some ⟨W.heap.size, 0, none⟩) 1 1)).run Tryd.prog W' = .ok (.string ⟨#[UInt8.ofNat n]⟩) W' :=
  conv_one n hn _ _ (hb.row (heap_alloc_new W _))
theorem bitLen_64 (x : Nat) : Lib.bitLen x ≤ 64 := aux_le 64 x
theorem num_any (x : Nat) (h : x < 2 ^ 64) (w : World) :
    Calls Tryd.prog 24 #[.int .u64 (x : Int)] w fun e w' => e = .returned (.string ⟨(num x).toArray⟩) ∧ Bel w w' := by
  have c35 := hide (fun W => len64_any x h W)
  have c36 := hide (fun W => highFirst_any x (nb x) (nb8 x h) W)
  have hl := bitLen_64 x
  have hn8 := nb8 x h
  have hcv1 := conv_new (nb x) hn8
  have hcv2 := conv_new' (nb x) hn8
  have hwr : IntKind.u8.wrap (nb x : Int) = (nb x : Int) := by rw [IntKind.wrap_u8]; omega
  have hnb : ((Lib.bitLen x : Nat) + 7 : Int) / 8 = (nb x : Int) := by unfold nb; simp
  have hn := nb8 x h
  clear h
  generalize Lib.bitLen x = L at *
  generalize hm : nb x = n at *
  have Hm := hide hm
  clear hm
  have hsz : ¬ (9223372036854775807 < 1 + (hf x n).length) := by rw [hf_len]; omega
  go_enter Tryd.func24, Tryd.ntmps24
  go_wp2_with (go_at_call 42; refine (c35.out _).mono ?_; rintro e w' ⟨rfl, rfl⟩)
  go_region_with (go_at_call 43; refine (c36.out _).mono ?_; rintro e w'' ⟨rfl, hb⟩; first | have hc3 := conv_then hn8 hb | skip)
  all_goals
    go_wp2
    go_ret
    refine ⟨?_, ?_⟩
    · rw [num, Hm.out]; exact congrArg (fun s => Ending.returned (Value.string s)) (ByteArray.mk_append_mk [UInt8.ofNat n] (hf x n))
    · first | exact ((Bel.refl _).alloc _).drew.trans hb | exact ((Bel.refl _).drew.trans hb).alloc _
theorem div_zero_iff (x k : Nat) : x / 2 ^ k = 0 ↔ x < 2 ^ k := Nat.div_eq_zero_iff_lt (Nat.pow_pos (by omega))
theorem lift63 (x : Int) (h0 : -9223372036854775808 ≤ x) (h1 : x < 9223372036854775808) : IntKind.u64.wrap (IntKind.u64.wrap x + 9223372036854775808) = ((x + 9223372036854775808).toNat : Int) := by
  rw [IntKind.wrap_u64, IntKind.wrap_u64]; omega
def int8 (x : Int) : List UInt8 := hf (x + 9223372036854775808).toNat 8
theorem int_any (x : Int) (h0 : -9223372036854775808 ≤ x) (h1 : x < 9223372036854775808) (w : World) :
    Calls Tryd.prog 54 #[.int .i64 x] w fun e w' => e = .returned (.string ⟨(int8 x).toArray⟩) ∧ Bel w w' := by
  have hl := hide (lift63 x h0 h1)
  go_enter Tryd.func54, Tryd.ntmps54
  go_wp2_with fail
  rw [hl.out]
  refine (highFirst_any _ 8 (by omega) _).mono ?_
  rintro e w' ⟨rfl, hb⟩
  go_wp2_with fail
  go_ret
  exact ⟨rfl, hb⟩
theorem num_len (x : Nat) (h : x < 2 ^ 64) : (num x).length ≤ 9 := by
  have := nb8 x h
  unfold num; simp [hf_len]; omega
end Go.Proofs.YtgghcfmpfneehabDoor
