/- What the program's and the document's Num, Int and Text return; for every number and every text. -/
import Derived.Test.YtgghcfmpfneehaaGreatDoorWalksB
import Derived.Deep.RegionHeld3
namespace Go.Proofs.YtgghcfmpfneehaaGreatDoor
open Go.RowKit
theorem len64_any (x : Nat) (h : x < 2 ^ 64) (w : World) :
    Calls Tryz.prog 87 #[.int .u64 (x : Int)] w fun e w' => e = .returned (.int .i64 (Lib.bitLen x : Int)) ∧ w' = w := by
  have h := len64_int x w (by omega) (by omega)
  rw [Int.toNat_natCast] at h
  exact h
def num (x : Nat) : List UInt8 := UInt8.ofNat (nb x) :: hf x (nb x)
theorem conv_one (n : Nat) (hn : n ≤ 8) (W : World) (b : Nat) (h : W.heap[b]? = some (.cells #[.int .u8 (n : Int)] 5)) :
    (convert 98 9 (.slice (some ⟨b, 0, none⟩) 1 1)).run Tryz.prog W = .ok (.string ⟨#[UInt8.ofNat n]⟩) W := by
  refine conv_row W b 1 1 [UInt8.ofNat n] #[] (0, 0) 5 rfl ?_
  rw [h]
  simp [vs, vb]
  omega
theorem conv_new (n : Nat) (hn : n ≤ 8) (W : World) : (convert 98 9 (.slice (some ⟨W.heap.size, 0, none⟩) 1 1)).run Tryz.prog (W.alloc (.cells #[.int .u8 (n : Int)] 5)) = .ok (.string ⟨#[UInt8.ofNat n]⟩) (W.alloc (.cells #[.int .u8 (n : Int)] 5)) :=
  conv_one n hn _ _ (heap_alloc_new W _)
theorem conv_new' (n : Nat) (hn : n ≤ 8) (W : World) : (convert 98 9 (.slice (some ⟨W.heap.size, 0, none⟩) 1 1)).run Tryz.prog (W.alloc (.cells #[.int .u8 (n : Int)] 5)).drew = .ok (.string ⟨#[UInt8.ofNat n]⟩) (W.alloc (.cells #[.int .u8 (n : Int)] 5)).drew :=
  conv_one n hn _ _ (heap_alloc_new W _)
theorem conv_then {n : Nat} (hn : n ≤ 8) {W W' : World} (hb : Bel (W.alloc (.cells #[.int .u8 (n : Int)] 5)).drew W') : (convert 98 9 (.slice (some ⟨W.heap.size, 0, none⟩) 1 1)).run Tryz.prog W' = .ok (.string ⟨#[UInt8.ofNat n]⟩) W' :=
  conv_one n hn _ _ (hb.row (heap_alloc_new W _))
theorem bitLen_64 (x : Nat) : Lib.bitLen x ≤ 64 := aux_le 64 x
theorem num_any (x : Nat) (h : x < 2 ^ 64) (w : World) :
    Calls Tryz.prog 51 #[.int .u64 (x : Int)] w fun e w' => e = .returned (.string ⟨(num x).toArray⟩) ∧ Bel w w' := by
  have c35 := hide (fun W => len64_any x h W)
  have c36 := hide (fun W => highFirst_any x (nb x) (nb8 x h) W)
  have hl := bitLen_64 x
  have hn8 := nb8 x h
  have hcv1 := conv_new (nb x) hn8
  have hcv2 := conv_new' (nb x) hn8
  have hwr : IntKind.u8.wrap (nb x : Int) = (nb x : Int) := by rw [IntKind.wrap_u8]; omega
  have hnb : ((Lib.bitLen x : Nat) + 7 : Int) / 8 = (nb x : Int) := by unfold nb; simp
  have hn := nb8 x h
  clear h
  generalize Lib.bitLen x = L at *
  generalize hm : nb x = n at *
  have Hm := hide hm
  clear hm
  have hsz : ¬ (9223372036854775807 < 1 + (hf x n).length) := by rw [hf_len]; omega
  go_enter Tryz.func51, Tryz.ntmps51
  go_wp2_with (go_at_call 87; refine (c35.out _).mono ?_; rintro e w' ⟨rfl, rfl⟩)
  go_region_with (go_at_call 88; refine (c36.out _).mono ?_; rintro e w'' ⟨rfl, hb⟩; first | have hc3 := conv_then hn8 hb | skip)
  all_goals
    go_wp2
    go_ret
    refine ⟨?_, ?_⟩
    · rw [num, Hm.out]; exact congrArg (fun s => Ending.returned (Value.string s)) (ByteArray.mk_append_mk [UInt8.ofNat n] (hf x n))
    · first | exact ((Bel.refl _).alloc _).drew.trans hb | exact ((Bel.refl _).drew.trans hb).alloc _
theorem div_zero_iff (x k : Nat) : x / 2 ^ k = 0 ↔ x < 2 ^ k := Nat.div_eq_zero_iff_lt (Nat.pow_pos (by omega))
set_option maxHeartbeats 1000000 in
theorem refNum_any (x : Nat) (h : x < 2 ^ 64) (w : World) :
    Calls Tryz.prog 47 #[.int .u64 (x : Int)] w fun e w' => e = .returned (.string ⟨(num x).toArray⟩) ∧ Bel w w' := by
  have c33 := hide (fun W => fixed_any x (nb x) (nb8 x h) W)
  have hn8 := nb8 x h
  have H64 := hide h
  clear h
  go_enter Tryz.func47, Tryz.ntmps47
  go_wp2_with fail
  go_loop [3, 4, 5, 6, 7, 8, 9, 10, 11, 12, 13] (fun i _ _ _ _ _ _ _ _ _ _ => ∃ k : Nat, k ≤ nb x ∧ i = .int .i64 k) (fun i _ _ _ _ _ _ _ _ _ _ => 8 - (intOf i).toNat)
  case atStart => exact ⟨0, Nat.zero_le _, rfl⟩
  case round =>
    obtain ⟨k, hk, rfl⟩ := hrel
    by_cases hlt : k < 8
    · by_cases hz : x < 2 ^ (8 * k)
      · have hd : (x : Int) / 2 ^ (8 * k) = 0 := by
          have := (div_zero_iff x (8 * k)).2 hz
          have e : (x : Int) / 2 ^ (8 * k) = ((x / 2 ^ (8 * k) : Nat) : Int) := by simp
          rw [e, this]; rfl
        obtain rfl : k = nb x := by
          have := (nb_le x k H64.out (by omega)).2 hz; omega
        generalize hm : nb x = n at *
        have Hm := hide hm
        have hcv1 := conv_new n hn8
        have hcv2 := conv_new' n hn8
        have hwr : IntKind.u8.wrap (n : Int) = (n : Int) := by rw [IntKind.wrap_u8]; omega
        have hsz : ¬ (9223372036854775807 < 1 + (hf x n).length) := by rw [hf_len]; omega
        clear hm hz hk
        go_wp2_with fail
        go_region_with (go_at_call 84; refine (c33.out _).mono ?_; rintro e w'' ⟨rfl, hb⟩; first | have hc3 := conv_then hn8 hb | skip)
        all_goals
          go_wp2
          go_ret
          refine ⟨?_, ?_⟩
          · rw [num, Hm.out]; exact congrArg (fun s => Ending.returned (Value.string s)) (ByteArray.mk_append_mk [UInt8.ofNat n] (hf x n))
          · first | exact ((Bel.refl _).alloc _).drew.trans hb | exact ((Bel.refl _).drew.trans hb).alloc _
      · have hd : ((x : Int) / 2 ^ (8 * k) != 0) = true := by
          have := mt (div_zero_iff x (8 * k)).1 hz
          have e : (x : Int) / 2 ^ (8 * k) = ((x / 2 ^ (8 * k) : Nat) : Int) := by simp
          rw [e, bne_iff_ne]; omega
        go_wp2_with fail
        go_round
        case rel =>
          refine ⟨k + 1, ?_, by go_num⟩
          have := mt (nb_le x k H64.out (by omega)).1 hz
          omega
        case measure => simp [intOf]; omega
    · obtain rfl : k = nb x := by omega
      generalize hm : nb x = n at *
      have Hm := hide hm
      have hcv1 := conv_new n hn8
      have hcv2 := conv_new' n hn8
      have hwr : IntKind.u8.wrap (n : Int) = (n : Int) := by rw [IntKind.wrap_u8]; omega
      have hsz : ¬ (9223372036854775807 < 1 + (hf x n).length) := by rw [hf_len]; omega
      clear hm hk
      go_wp2_with fail
      go_region_with (go_at_call 84; refine (c33.out _).mono ?_; rintro e w'' ⟨rfl, hb⟩; first | have hc3 := conv_then hn8 hb | skip)
      all_goals
        go_wp2
        go_ret
        refine ⟨?_, ?_⟩
        · rw [num, Hm.out]; exact congrArg (fun s => Ending.returned (Value.string s)) (ByteArray.mk_append_mk [UInt8.ofNat n] (hf x n))
        · first | exact ((Bel.refl _).alloc _).drew.trans hb | exact ((Bel.refl _).drew.trans hb).alloc _
theorem lift63 (x : Int) (h0 : -9223372036854775808 ≤ x) (h1 : x < 9223372036854775808) : IntKind.u64.wrap (IntKind.u64.wrap x + 9223372036854775808) = ((x + 9223372036854775808).toNat : Int) := by
  rw [IntKind.wrap_u64, IntKind.wrap_u64]; omega
def int8 (x : Int) : List UInt8 := hf (x + 9223372036854775808).toNat 8
theorem int_any (x : Int) (h0 : -9223372036854775808 ≤ x) (h1 : x < 9223372036854775808) (w : World) :
    Calls Tryz.prog 113 #[.int .i64 x] w fun e w' => e = .returned (.string ⟨(int8 x).toArray⟩) ∧ Bel w w' := by
  have hl := hide (lift63 x h0 h1)
  go_enter Tryz.func113, Tryz.ntmps113
  go_wp2_with fail
  rw [hl.out]
  refine (highFirst_any _ 8 (by omega) _).mono ?_
  rintro e w' ⟨rfl, hb⟩
  go_wp2_with fail
  go_ret
  exact ⟨rfl, hb⟩
theorem refInt_any (x : Int) (h0 : -9223372036854775808 ≤ x) (h1 : x < 9223372036854775808) (w : World) :
    Calls Tryz.prog 85 #[.int .i64 x] w fun e w' => e = .returned (.string ⟨(int8 x).toArray⟩) ∧ Bel w w' := by
  have hl := hide (lift63 x h0 h1)
  go_enter Tryz.func85, Tryz.ntmps85
  go_wp2_with fail
  rw [hl.out]
  refine (fixed_any _ 8 (by omega) _).mono ?_
  rintro e w' ⟨rfl, hb⟩
  go_wp2_with fail
  go_ret
  exact ⟨rfl, hb⟩
theorem num_len (x : Nat) (h : x < 2 ^ 64) : (num x).length ≤ 9 := by
  have := nb8 x h
  unfold num; simp [hf_len]; omega
end Go.Proofs.YtgghcfmpfneehaaGreatDoor
