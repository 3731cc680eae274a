/- What the document's own maps of registers return: times and shifted, Noughts and Join; for every register and every number of bytes. -/
import Derived.Test.YtncgfcmjeojocaaWalksC
namespace Go.Proofs.Ytncgfcmjeojocaa
open Go.RowKit
theorem times_any (M : List (BitVec 32)) (hM : M.length = 32) (x : BitVec 32) (b : Nat) (t : TypeId) (w : World) (hrow : w.heap[b]? = some (.cells (mv M) t)) :
    Calls Try.prog 31 #[.slice (some ⟨b, 0, none⟩) 32 32, .int .u32 (U x)] w fun e w' => e = .returned (.int .u32 (U (timesTo M x 32))) ∧ w' = w := by
  have Hm : Hid (M.length = 32) := hM
  have Hr := hide hrow
  clear hM hrow
  go_enter Try.func31, Try.ntmps31
  go_wp2_with fail
  go_loop [5, 6] (fun r i => ∃ k : Nat, k ≤ 32 ∧ i = .int .i64 k ∧ r = .int .u32 (U (timesTo M x k))) (fun _ i => 32 - (intOf i).toNat)
  case atStart => exact ⟨0, Nat.zero_le _, rfl, rfl⟩
  case round =>
    obtain ⟨k, hk, rfl, rfl⟩ := hrel
    by_cases hlt : k < 32
    · have hget : w.cell? ⟨b, k, none⟩ = some (.int .u32 (U (M.getD k 0#32))) := by
        rw [cell_of_row _ _ _ _ _ _ Hr.out]; exact mv_get M k (by rw [Hm.out]; exact hlt)
      have hbit := bit_iff x k
      cases hx : x.getLsbD k
      · rw [hx] at hbit
        have Hx : Hid (x.getLsbD k = false) := hx
        clear hx
        go_wp2
        go_round
        case rel => exact ⟨k + 1, by omega, by go_num, by rw [timesTo_f Hx.out]⟩
        case measure => simp [intOf]; omega
      · rw [hx] at hbit
        have Hx : Hid (x.getLsbD k = true) := hx
        clear hx
        go_wp2
        go_round
        case rel => exact ⟨k + 1, by omega, by go_num, by rw [timesTo_t Hx.out, ← U_xor, List.getD_eq_getElem?_getD]⟩
        case measure => simp [intOf]; omega
    · go_wp2
      go_ret
      obtain rfl : k = 32 := by omega
      exact ⟨rfl, rfl⟩
theorem mk32 (w : World) : (Instr.makeSlice 51 (.int .i64 32) (.int .i64 32)).run Try.prog w = .ok (.slice (some ⟨w.heap.size, 0, none⟩) 32 32) (w.alloc (.cells z32 22)) := by kernel_rfl
theorem turn_B0 (y : BitVec 32) : turn (y ^^^ B 0) = turn y := by
  rw [show B 0 = 0#32 from rfl, BitVec.xor_zero]
theorem shl_mod (k : Nat) (h : k < 32) : (2 : Int) ^ k % 4294967296 = U (1#32 <<< k) := by
  rw [← pow_shl k h]
  have h1 : (2 : Int) ^ k < 2 ^ 32 := Int.pow_lt_pow_of_lt (by omega) h
  have h2 : (0 : Int) ≤ 2 ^ k := Int.le_of_lt (Int.pow_pos (by omega))
  exact Int.emod_eq_of_lt h2 h1
def Rel24 (x : BitVec 32) (n : Int) (w : World) (rr zz pp : Value) (W : World) : Prop :=
  ∃ (f : Nat) (M : List (BitVec 32)) (r : BitVec 32) (z : Int) (b : Nat), behF f M r z.toNat = beh x n.toNat ∧ z.toNat < 2 ^ f ∧ M.length = 32 ∧ rr = .int .u32 (U r) ∧ zz = .int .i64 z ∧ pp = .slice (some ⟨b, 0, none⟩) 32 32 ∧ z ≤ 9223372036854775807 ∧ w.heap.size ≤ b ∧ W.heap[b]? = some (.cells (mv M) 22) ∧ GB w W
theorem shifted_any (v : Int) (x : BitVec 32) (hv : v = U x) (n : Int) (h0 : -9223372036854775808 ≤ n) (h1 : n ≤ 9223372036854775807) (w : World) :
    Calls Try.prog 24 #[.int .u32 v, .int .i64 n] w fun e w' => e = .returned (.int .u32 (U (beh x n.toNat))) ∧ GB w w' := by
  subst hv
  have hmk := mk32
  go_enter Try.func24, Try.ntmps24
  go_wp2_with fail
  go_loopw [6] (fun i W => ∃ k : Nat, k ≤ 32 ∧ i = .int .i64 k ∧ W = w.alloc (.cells (mv (fillTo nof k)) 22)) (fun i _ => 32 - (intOf i).toNat)
  case atStart => exact ⟨0, Nat.zero_le _, rfl, rfl⟩
  case round =>
    obtain ⟨k, hk, rfl, rfl⟩ := hrel
    by_cases hlt : k < 32
    · have hget := mv_get (fillTo nof k) k (by rw [fillTo_len]; exact hlt)
      have Hset := hide (fillTo_set nof k)
      go_wp2_with fail
      refine (step_any _ (1#32 <<< k) (shl_mod k hlt) _ 0 rfl _).mono ?_
      rintro e w1 ⟨rfl, rfl⟩
      rw [turn_B0]
      go_wp2_with fail
      go_roundw
      case rel => exact ⟨k + 1, by omega, by go_num, by rw [← unhide Hset]; rfl⟩
      case measure => simp [intOf]; omega
    · obtain rfl : k = 32 := by omega
      rw [fillTo_all]
      go_wp2_with fail
      go_loopw [0, 1, 5, 7, 8] (fun rr zz pp _ _ W => Rel24 x n w rr zz pp W) (fun _ zz _ _ _ _ => (intOf zz).toNat)
      case atStart =>
        exact ⟨64, tab nof, x, n, w.heap.size, rfl, by omega, tab_len _, rfl, rfl, rfl, h1, Nat.le_refl _, heap_alloc_last w _, (GB.refl w).alloc _ _⟩
      case round =>
        obtain ⟨f, M, r, z, b, hbe, hzf, hM, rfl, rfl, rfl, hz1, hwb, hrow, hgr⟩ := hrel
        have Hbe := hide hbe
        have HM := hide hM
        have B0 := hide hrow
        have Hzf := hide hzf
        have hbl := row_lt hrow
        clear hbe hM hrow hzf hk hlt
        by_cases hz0 : 0 < z
        · have ha := i64_and1 z (by omega) hz1
          by_cases hodd : z % 2 = 1
          · have ht : (z % 2 == 1) = true := by rw [hodd]; rfl
            have Hodd := hide hodd
            clear hodd
            go_wp2_with fail
            refine (times_any M HM.out r b 22 _ B0.out).mono ?_
            rintro e w2 ⟨rfl, rfl⟩
            go_wp2_with fail
            go_loopw [8] (fun i V => ∃ k : Nat, k ≤ 32 ∧ i = .int .i64 k ∧ V = w2.alloc (.cells (mv (fillTo (sqof M) k)) 22)) (fun i _ => 32 - (intOf i).toNat)
            case atStart => exact ⟨0, Nat.zero_le _, rfl, rfl⟩
            case round =>
              obtain ⟨k, hk, rfl, rfl⟩ := hrel
              by_cases hlt : k < 32
              · have hget := mv_get (fillTo (sqof M) k) k (by rw [fillTo_len]; exact hlt)
                have Hset := hide (fillTo_set (sqof M) k)
                have hc : w2.cell? ⟨b, k, none⟩ = some (.int .u32 (U (M.getD k 0#32))) := by
                  rw [cell_of_row _ _ _ _ _ _ B0.out]; exact mv_get M k (by rw [HM.out]; exact hlt)
                have B1 := hide ((Below.heap_alloc w2 (.cells (mv (fillTo (sqof M) k)) 22) b hbl).trans B0.out)
                go_wp2_with fail
                refine (times_any M HM.out _ b 22 _ B1.out).mono ?_
                rintro e w4 ⟨rfl, rfl⟩
                go_wp2_with fail
                go_roundw
                case rel =>
                  have hfin : ∃ k' : Nat, k' ≤ 32 ∧ Value.int .i64 ((k : Int) + 1) = .int .i64 (k' : Int) ∧ w2.alloc (.cells ((mv (fillTo (sqof M) k)).setIfInBounds k (.int .u32 (U (timesTo M (M[k]?.getD 0#32) 32)))) 22) = w2.alloc (.cells (mv (fillTo (sqof M) k')) 22) :=
                    ⟨k + 1, by omega, by go_num, by rw [← unhide Hset, sqof, List.getD_eq_getElem?_getD]⟩
                  first | exact hfin | ((repeat apply Exists.intro); exact ⟨hfin, rfl⟩)
                case measure => simp [intOf]; omega
              · obtain rfl : k = 32 := by omega
                rw [fillTo_all]
                go_wp2_with fail
                go_roundw
                case rel =>
                  obtain ⟨f', rfl⟩ : ∃ f', f = f' + 1 := by
                    cases f with
                    | zero => have := Hzf.out; simp at this; omega
                    | succ f' => exact ⟨f', rfl⟩
                  have hp := Hzf.out
                  rw [Nat.pow_succ] at hp
                  have hfin : Rel24 x n w (.int .u32 (U (timesTo M r 32))) (.int .i64 (z / 2)) (.slice (some ⟨w2.heap.size, 0, none⟩) 32 32) (w2.alloc (.cells (mv (tab (sqof M))) 22)) := by
                    refine ⟨f', tab (sqof M), timesTo M r 32, z / 2, w2.heap.size, ?_, by omega, tab_len _, rfl, rfl, rfl, by omega, hgr.size, heap_alloc_last _ _, hgr.alloc _ _⟩
                    rw [← Hbe.out, behF_odd _ _ _ _ (by have := Hodd.out; omega), show (z / 2).toNat = z.toNat / 2 by omega]
                  first | exact hfin | ((repeat apply Exists.intro); exact ⟨hfin, rfl⟩)
                case measure => simp [intOf]; omega
          · have ht : (z % 2 == 1) = false := by rw [beq_eq_false_iff_ne]; exact hodd
            have Hodd := hide hodd
            clear hodd
            go_wp2_with fail
            go_loopw [8] (fun i V => ∃ k : Nat, k ≤ 32 ∧ i = .int .i64 k ∧ V = wr.alloc (.cells (mv (fillTo (sqof M) k)) 22)) (fun i _ => 32 - (intOf i).toNat)
            case atStart => exact ⟨0, Nat.zero_le _, rfl, rfl⟩
            case round =>
              obtain ⟨k, hk, rfl, rfl⟩ := hrel
              by_cases hlt : k < 32
              · have hget := mv_get (fillTo (sqof M) k) k (by rw [fillTo_len]; exact hlt)
                have Hset := hide (fillTo_set (sqof M) k)
                have hc : wr.cell? ⟨b, k, none⟩ = some (.int .u32 (U (M.getD k 0#32))) := by
                  rw [cell_of_row _ _ _ _ _ _ B0.out]; exact mv_get M k (by rw [HM.out]; exact hlt)
                have B1 := hide ((Below.heap_alloc wr (.cells (mv (fillTo (sqof M) k)) 22) b hbl).trans B0.out)
                go_wp2_with fail
                refine (times_any M HM.out _ b 22 _ B1.out).mono ?_
                rintro e w4 ⟨rfl, rfl⟩
                go_wp2_with fail
                go_roundw
                case rel =>
                  have hfin : ∃ k' : Nat, k' ≤ 32 ∧ Value.int .i64 ((k : Int) + 1) = .int .i64 (k' : Int) ∧ wr.alloc (.cells ((mv (fillTo (sqof M) k)).setIfInBounds k (.int .u32 (U (timesTo M (M[k]?.getD 0#32) 32)))) 22) = wr.alloc (.cells (mv (fillTo (sqof M) k')) 22) :=
                    ⟨k + 1, by omega, by go_num, by rw [← unhide Hset, sqof, List.getD_eq_getElem?_getD]⟩
                  first | exact hfin | ((repeat apply Exists.intro); exact ⟨hfin, rfl⟩)
                case measure => simp [intOf]; omega
              · obtain rfl : k = 32 := by omega
                rw [fillTo_all]
                go_wp2_with fail
                go_roundw
                case rel =>
                  obtain ⟨f', rfl⟩ : ∃ f', f = f' + 1 := by
                    cases f with
                    | zero => have := Hzf.out; simp at this; omega
                    | succ f' => exact ⟨f', rfl⟩
                  have hp := Hzf.out
                  rw [Nat.pow_succ] at hp
                  have hfin : Rel24 x n w (.int .u32 (U (r))) (.int .i64 (z / 2)) (.slice (some ⟨wr.heap.size, 0, none⟩) 32 32) (wr.alloc (.cells (mv (tab (sqof M))) 22)) := by
                    refine ⟨f', tab (sqof M), r, z / 2, wr.heap.size, ?_, by omega, tab_len _, rfl, rfl, rfl, by omega, hgr.size, heap_alloc_last _ _, hgr.alloc _ _⟩
                    rw [← Hbe.out, behF_even _ _ _ _ (by omega) (by have := Hodd.out; omega), show (z / 2).toNat = z.toNat / 2 by omega]
                  first | exact hfin | ((repeat apply Exists.intro); exact ⟨hfin, rfl⟩)
                case measure => simp [intOf]; omega
        · go_wp2_with fail
          go_ret
          have e := Hbe.out
          rw [show z.toNat = 0 by omega, behF_zero] at e
          rw [e]
          exact ⟨rfl, hgr⟩

theorem refNoughts_any (v : Int) (x : BitVec 32) (hv : v = U x) (n : Int) (h0 : -9223372036854775808 ≤ n) (h1 : n ≤ 9223372036854775807) (w : World) :
    Calls Try.prog 14 #[.int .u32 v, .int .i64 n] w fun e w' => e = .returned (.int .u32 (U (~~~(beh (~~~x) n.toNat)))) ∧ GB w w' := by
  subst hv
  have hn := U_ones x
  have hn2 := U_ones (beh (~~~x) n.toNat)
  go_enter Try.func14, Try.ntmps14
  go_wp2_with fail
  refine (shifted_any _ (~~~x) rfl n h0 h1 _).mono ?_
  rintro e w1 ⟨rfl, hg⟩
  go_wp2
  go_ret
  exact ⟨rfl, hg⟩
theorem refJoin_any (v : Int) (x : BitVec 32) (hv : v = U x) (u : Int) (y : BitVec 32) (hu : u = U y) (n : Int) (h0 : -9223372036854775808 ≤ n) (h1 : n ≤ 9223372036854775807) (w : World) :
    Calls Try.prog 16 #[.int .u32 v, .int .u32 u, .int .i64 n] w fun e w' => e = .returned (.int .u32 (U (beh x n.toNat ^^^ y))) ∧ GB w w' := by
  subst hv
  subst hu
  have hn := U_xor (beh x n.toNat) y
  go_enter Try.func16, Try.ntmps16
  go_wp2_with fail
  refine (shifted_any _ x rfl n h0 h1 _).mono ?_
  rintro e w1 ⟨rfl, hg⟩
  go_wp2
  go_ret
  exact ⟨rfl, hg⟩
end Go.Proofs.Ytncgfcmjeojocaa
