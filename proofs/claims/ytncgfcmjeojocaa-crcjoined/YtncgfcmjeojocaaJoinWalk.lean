/- The walk of the law on joined texts: it returns true, for every two texts within the form's own reach and every number; nothing that was there is turned. -/
import Derived.Test.YtncgfcmjeojocaaJoinAids
import Derived.Deep.RegionHeld
namespace Go.Proofs.Ytncgfcmjeojocaa
open Go.RowKit
set_option maxHeartbeats 4000000 in
set_option maxRecDepth 100000 in
theorem joined_walk (a0 a1 : ByteArray) (a2 : Int) (b0 : a0.size ≤ 140737488351232) (b1 : a1.size ≤ 140737488351232) (w : World) :
    Calls Try.prog 6 #[.string a0, .string a1, .int .i64 a2] w fun e w' => e = .returned (.bool true) ∧ Grown w w' := by
  obtain ⟨k, hk, hb0⟩ := i64_mask a2 255 (by omega)
  have hb : bits .and .i64 a2 255 = (k : Int) := hb0
  clear hb0
  have hmk := run_make_row' (P := Try.prog) 36 5 (.int .u8 0) 1 Try.underlying36 Try.info5 rfl .i64 .i64 k (by omega) (by omega)
  rw [show madeCells #[.int .u8 0] k = zc k from rfl] at hmk
  obtain ⟨zs, hzs⟩ : ∃ zs : ByteArray, zs = ⟨(List.replicate k (0 : UInt8)).toArray⟩ := ⟨_, rfl⟩
  have hcv : ∀ W : World, W.heap[w.heap.size]? = some (.cells (zc k) 5) → (convert 36 9 (.slice (some ⟨w.heap.size, 0, none⟩) k k)).run Try.prog W = .ok (.string zs) W := fun W h => by rw [hzs]; exact conv_zeros _ _ W h
  have hzz : zs.size ≤ 255 := by rw [hzs]; show (List.replicate k (0 : UInt8)).toArray.size ≤ 255; simp; exact hk
  have hml : maxLen = 9223372036854775807 := rfl
  have l1 : a1.data.toList.length = a1.size := by simp
  have c8a : ∀ W, Calls Try.prog 8 #[.string a0] W fun e w' => e = .returned (.int .u32 (U (more 0#32 a0.data.toList))) ∧ w' = W := fun W => of_any a0 (by omega) W
  have c8b : ∀ W, Calls Try.prog 8 #[.string a1] W fun e w' => e = .returned (.int .u32 (U (more 0#32 a1.data.toList))) ∧ w' = W := fun W => of_any a1 (by omega) W
  have c10 : ∀ W, Calls Try.prog 10 #[.int .u32 (U (more 0#32 a0.data.toList)), .string a1] W fun e w' => e = .returned (.int .u32 (U (more 0#32 (a0.data.toList ++ a1.data.toList)))) ∧ w' = W := fun W =>
    calls_same (more_any _ _ rfl a1 (by omega) W) (by rw [more_append])
  have c8ab : ∀ W, Calls Try.prog 8 #[.string (a0 ++ a1)] W fun e w' => e = .returned (.int .u32 (U (more 0#32 (a0.data.toList ++ a1.data.toList)))) ∧ w' = W := fun W =>
    calls_same (of_any (a0 ++ a1) (by rw [ByteArray.size_append]; omega) W) (by rw [append_list])
  have c15 : ∀ W, Calls Try.prog 15 #[.int .u32 (U (more 0#32 a0.data.toList)), .int .u32 (U (more 0#32 a1.data.toList)), .int .i64 (a1.size : Int)] W fun e w' => e = .returned (.int .u32 (U (more 0#32 (a0.data.toList ++ a1.data.toList)))) ∧ Grown W w' := fun W =>
    calls_grown (join_any _ _ rfl _ _ rfl a1.size (by omega) (by omega) W) (by rw [Int.toNat_natCast, ← join_more _ _ (by rw [l1]; omega), l1])
  have c13 : ∀ W, Calls Try.prog 13 #[.int .u32 (U (more 0#32 a0.data.toList)), .int .i64 (k : Int)] W fun e w' => e = .returned (.int .u32 (U (more 0#32 (a0.data.toList ++ zs.data.toList)))) ∧ Grown W w' := fun W =>
    calls_grown (noughts_any _ _ rfl k (by omega) (by omega) W) (by rw [Int.toNat_natCast, noughts_more _ _ _ (by omega), hzs])
  have c8z : ∀ W, Calls Try.prog 8 #[.string (a0 ++ zs)] W fun e w' => e = .returned (.int .u32 (U (more 0#32 (a0.data.toList ++ zs.data.toList)))) ∧ w' = W := fun W =>
    calls_same (of_any (a0 ++ zs) (by rw [ByteArray.size_append]; omega) W) (by rw [append_list])
  generalize more 0#32 (a0.data.toList ++ zs.data.toList) = Rz at *
  generalize more 0#32 (a0.data.toList ++ a1.data.toList) = Rab at *
  generalize more 0#32 a0.data.toList = Ra at *
  generalize more 0#32 a1.data.toList = Rb at *
  have C8a := hide c8a
  have C8b := hide c8b
  have C10 := hide c10
  have C8ab := hide c8ab
  have C15 := hide c15
  have C13 := hide c13
  have C8z := hide c8z
  have q1 : ¬ (9223372036854775807 < a0.size + a1.size) := by omega
  have q2 : ¬ (9223372036854775807 < a0.size + zs.size) := by omega
  have s0 := hide (show (w.alloc (.cells (zc k) 5)).drew.heap[w.heap.size]? = some (.cells (zc k) 5) ∧ Grown w (w.alloc (.cells (zc k) 5)).drew from ⟨heap_alloc_last w _, ((Grown.refl w).alloc _ _).drew⟩)
  clear c8a c8b c10 c8ab c15 c13 c8z hzs l1 hml hzz hk b0 b1
  go_enter Try.func6, Try.ntmps6
  go_wp2_with fail
  go_region_held (fun W' => W'.heap[w.heap.size]? = some (.cells (zc k) 5) ∧ Grown w W') (first | exact s0.out | assumption | exact held_next (by assumption) (by assumption)) (first
    | (go_at_call_of 8 (Value.string a0); refine (C8a.out _).mono ?_; rintro e w' ⟨rfl, rfl⟩)
    | (go_at_call_of 8 (Value.string a1); refine (C8b.out _).mono ?_; rintro e w' ⟨rfl, rfl⟩)
    | (go_at_call_of 8 (Value.string (a0 ++ a1)); refine (C8ab.out _).mono ?_; rintro e w' ⟨rfl, rfl⟩)
    | (go_at_call_of 8 (Value.string (a0 ++ zs)); refine (C8z.out _).mono ?_; rintro e w' ⟨rfl, rfl⟩)
    | (go_at_call 10; refine (C10.out _).mono ?_; rintro e w' ⟨rfl, rfl⟩)
    | (go_at_call 15; refine (C15.out _).mono ?_; rintro e w' ⟨rfl, hg⟩)
    | (go_at_call 13; refine (C13.out _).mono ?_; rintro e w' ⟨rfl, hg⟩)
    | (go_at_call 12; refine (alive_any _).mono ?_; rintro e w' ⟨rfl, hg⟩))
  go_wp2
  go_ret
  rename_i hh
  exact ⟨rfl, hh.2⟩
end Go.Proofs.Ytncgfcmjeojocaa
