/- LogsLong's walk. -/
import Derived.Test.YthipgcojbhcdgaaLal
namespace Go.Proofs.Ythipgcojbhcdgaa
open Go.RowKit Go.Maps Go.Sort
theorem i64_mask3 (z : Int) (m : Nat) (hm : m < 9223372036854775808) : ∃ k : Nat, k ≤ m ∧ bits .and .i64 z (m : Int) = (k : Int) := by
  refine ⟨(BitVec.ofInt 64 z &&& BitVec.ofInt 64 (m : Int)).toNat, ?_, ?_⟩
  · rw [BitVec.toNat_and, ofInt_u64 m (by omega)]; exact Nat.and_le_right
  · show IntKind.i64.wrap ((BitVec.ofInt 64 z &&& BitVec.ofInt 64 (m : Int)).toNat : Int) = _
    have h : (BitVec.ofInt 64 z &&& BitVec.ofInt 64 (m : Int)).toNat ≤ m := by
      rw [BitVec.toNat_and, ofInt_u64 m (by omega)]; exact Nat.and_le_right
    exact wrapI (by omega) (by omega)
theorem Try.info5 : (Try.prog.info? 5).map (fun i => (i.zero, i.size, i.bytes)) = some (some (.int .u8 0), 1, 1) := by kernel_rfl
def zc (k : Nat) : Array Value := madeCells #[.int .u8 0] k
theorem zc_eq (k : Nat) : zc k = ((List.replicate k (0 : Int)).map (Value.int .u8)).toArray := by
  unfold zc madeCells
  apply Array.ext
  · simp
  · intro i h1 h2
    simp [Nat.mod_one]
theorem addr_add0 (b j : Nat) : (⟨b, 0, none⟩ : Addr).add j = ⟨b, j, none⟩ := by unfold Addr.add; split <;> simp_all
theorem push_zeros : ∀ (k : Nat) (l : List UInt8), (List.replicate k (0 : Int)).foldl (fun (r : ByteArray) n => r.push (UInt8.ofNat n.toNat)) ⟨l.toArray⟩ = ⟨(l ++ List.replicate k (0 : UInt8)).toArray⟩ := by
  intro k
  induction k with
  | zero => intro l; simp
  | succ k ih =>
    intro l
    rw [List.replicate_succ, List.foldl_cons]
    have e : (ByteArray.mk l.toArray).push (UInt8.ofNat (0 : Int).toNat) = ⟨(l ++ [0]).toArray⟩ := by
      show ByteArray.mk (l.toArray.push 0) = _
      simp
    rw [e, ih, List.append_assoc]; rfl
def zt (k : Nat) : ByteArray := ⟨(List.replicate k (0 : UInt8)).toArray⟩
theorem zt_size (k : Nat) : (zt k).size = k := by show (List.replicate k (0 : UInt8)).toArray.size = k; simp
theorem conv_zeros (b k : Nat) (W : World) (h : W.heap[b]? = some (.cells (zc k) 5)) :
    (convert 49 9 (.slice (some ⟨b, 0, none⟩) k k)).run Try.prog W = .ok (.string (zt k)) W := by
  refine (run_convert_bytes_string _ 49 9 5 _ _ _ Try.underlying49 Try.underlying5 Try.underlying9).trans ?_
  rw [run_bytesToString (ns := List.replicate k (0 : Int))]
  · congr 2
    exact push_zeros k []
  · have h' := run_loadCells_list (P := Try.prog) W ⟨b, 0, none⟩ (zc k).toList (fun j v hv => by
      rw [addr_add0, cell_of_row _ _ j _ _ _ h]
      simpa using hv)
    rw [show (zc k).toList.length = k by rw [zc_eq]; simp] at h'
    rw [h', zc_eq]
set_option maxRecDepth 100000 in
set_option maxHeartbeats 4000000 in
theorem long_law (more : Int) (W : World) : Calls Try.prog 4 #[.int .i64 more] W fun e w' => e = .returned (.bool true) ∧ Bel W w' := by
  obtain ⟨k, hk, hbit⟩ := i64_mask3 more 3 (by omega)
  rw [show ((3 : Nat) : Int) = 3 from rfl] at hbit
  obtain ⟨n, hn⟩ : ∃ n : Nat, n = 1048575 + k := ⟨_, rfl⟩
  have hw1 : IntKind.i64.wrap (1048576 + (k : Int)) = 1048576 + (k : Int) := wrapI (by omega) (by omega)
  have hw2 : IntKind.i64.wrap (1048576 + (k : Int) - 1) = (n : Int) := by rw [show 1048576 + (k : Int) - 1 = (n : Int) by omega]; exact wrapI (by omega) (by omega)
  have hmk := run_make_row' (P := Try.prog) 49 5 (.int .u8 0) 1 Try.underlying49 Try.info5 rfl .i64 .i64 n (by omega) (by omega)
  rw [show madeCells #[.int .u8 0] n = zc n from rfl] at hmk
  have HN := hide new_1
  have HT := hide ltick_1
  have HAL := hide (fun w => alive_l (W := w))
  have HSM := hide same0
  have hn1 : n ≤ 1048578 := by omega
  clear hn hk
  go_enter Try.func4, Try.ntmps4
  go_wp2_with (first
    | go_skip
    | go_guarded
    | (go_at_call 6; refine ((unhide HN) _).mono ?_; rintro e w1 ⟨x1, rfl, hp1, hb1⟩; have HP := hide hp1; have HB := hide hb1; clear hp1 hb1)
    | (refine bx_new rfl 32 rfl _ Try.zero32 ?_; intro b w4 hr4 hs4 hb4; have HQ := hide (And.intro hr4 (And.intro hs4 hb4)); clear hr4 hs4 hb4)
    | (refine bx_st rfl 32 (.tmp 3) _ rfl b (pc 1 (pnew 1 1) x1) _ rfl rfl (unhide HQ).1 (Try.size32 _ _ _) rfl (pc_one _ _ _) ?_; intro w5 hr5 hc5; have hbb := bel_off (unhide HQ).2.2 hc5 (Nat.le_of_eq (unhide HQ).2.1); have HR1 := hide hr5; have HP := hide ((unhide HP).bel hbb); have HB := hide ((unhide HB).trans hbb); clear hr5 hc5 hbb)
    | (refine bx_ldH 32 (.tmp 3) (by exact rfl) _ (by exact rfl) (by exact rfl) (pc 1 (pnew 1 1) x1) _ (unhide HR1) Try.underlying32 (Try.size32 _ _ _) ?_)
    | (go_at_call 11; refine ((unhide HT) _ _ (unhide HP)).mono ?_; rintro e w2 ⟨x2, aA, cA, rfl, hp2, hb2⟩; have HP2 := hide hp2; have HB := hide ((unhide HB).trans hb2); clear hp2 hb2)
    | (refine bx_st rfl 32 (.tmp 5) _ rfl b (pc 1 q1 x2) _ rfl rfl (unhide HQ).1 (Try.size32 _ _ _) rfl (pc_one _ _ _) ?_; intro w6 hr5 hc5; have hbb := bel_off (unhide HQ).2.2 hc5 (Nat.le_of_eq (unhide HQ).2.1); have HR3 := hide hr5; have HP2 := hide ((unhide HP2).bel hbb); have HB := hide ((unhide HB).trans hbb); have hcv := conv_zeros w6.heap.size n (w6.alloc (.cells (zc n) 5)) (at_new w6 _); clear hr5 hc5 hbb)
    | (refine bx_ldH 32 (.tmp 5) (by exact rfl) _ (by exact rfl) (by exact rfl) (pc 1 q1 x2) _ (((Bel.refl _).alloc _).row (unhide HR3)) Try.underlying32 (Try.size32 _ _ _) ?_))
  have HB6 := hide ((unhide HB).trans ((Bel.refl w6).alloc (.cells (zc n) 5)))
  have HP6 := hide ((unhide HP2).bel ((Bel.refl w6).alloc (.cells (zc n) 5)))
  clear hcv hmk
  by_cases hs : n ≤ 1048576
  · have hs' : ¬ ((1048576 : Int) < (n : Int)) := by omega
    obtain ⟨r1, hr1⟩ : ∃ r1, r1 = q1.prop (zt n) := ⟨_, rfl⟩
    have HC : Hid (r1.log.length = 2) := hide (by rw [hr1]; exact (prop_1 _).2)
    refine (prop_q _ _ (zt n) (by rw [zt_size]; exact hs) (unhide HP6)).mono ?_
    rintro e w7 ⟨x3, he, hb7⟩
    rw [← hr1] at he
    subst he
    have HB7 := hide ((unhide HB6).trans hb7)
    clear hb7 hr1
    generalize zt n = tx at *
    go_wp2_with (first
      | go_skip
      | go_guarded
      | (refine bx_new rfl 32 rfl _ Try.zero32 ?_; intro b9 w4 hr4 hs4 hb4; have HQ := hide (And.intro hr4 (And.intro hs4 hb4)); clear hr4 hs4 hb4)
      | (refine bx_st rfl 32 (.tmp 9) _ rfl b9 (pc 1 r1 x3) _ rfl rfl (unhide HQ).1 (Try.size32 _ _ _) rfl (pc_one _ _ _) ?_; intro w5 hr5 hc5; have hbb := bel_off (unhide HQ).2.2 hc5 (Nat.le_of_eq (unhide HQ).2.1); have y10 := (Bx.of hr5).c10; rw [unhide HC] at y10; have HB8 := hide ((unhide HB7).trans hbb); clear hr5 hc5 hbb)
      | (go_at_call 14; refine ((unhide HAL) _).mono ?_; rintro e w8 ⟨rfl, hb8⟩; have HB9 := hide ((unhide HB8).trans hb8); clear hb8))
    go_ret
    exact ⟨rfl, unhide HB9⟩
  · have hs' : (1048576 : Int) < (n : Int) := by omega
    refine (prop_z _ _ (zt n) (by rw [zt_size]; omega) (unhide HP6)).mono ?_
    rintro e w7 ⟨rfl, hb7⟩
    have HB7 := hide ((unhide HB6).trans hb7)
    clear hb7
    generalize zt n = tx at *
    go_wp2_with (first
      | go_skip
      | go_guarded
      | (refine bx_new rfl 32 rfl _ Try.zero32 ?_; intro b9 w4 hr4 hs4 hb4; have HQ := hide (And.intro hr4 (And.intro hs4 hb4)); clear hr4 hs4 hb4)
      | (refine bx_st rfl 32 (.tmp 9) _ rfl b9 (pc 0 p0 x0) _ rfl rfl (unhide HQ).1 (Try.size32 _ _ _) rfl (pc_one _ _ _) ?_; intro w5 hr5 hc5; have hbb := bel_off (unhide HQ).2.2 hc5 (Nat.le_of_eq (unhide HQ).2.1); have HR9 := hide hr5; have HB8 := hide ((unhide HB7).trans hbb); clear hr5 hc5 hbb)
      | (refine bx_ldH 32 (.tmp 9) (by exact rfl) _ (by exact rfl) (by exact rfl) (pc 0 p0 x0) _ (unhide HR9) Try.underlying32 (Try.size32 _ _ _) ?_)
      | (go_at_call 13; refine ((unhide HSM) _).mono ?_; rintro e wa ⟨rfl, hba⟩; have HB8 := hide ((unhide HB8).trans hba); clear hba)
      | (go_at_call 14; refine ((unhide HAL) _).mono ?_; rintro e w8 ⟨rfl, hb8⟩; have HB9 := hide ((unhide HB8).trans hb8); clear hb8))
    go_ret
    exact ⟨rfl, unhide HB9⟩
end Go.Proofs.Ythipgcojbhcdgaa
