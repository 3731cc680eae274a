/- TrimLong's walk. -/
import Derived.Test.YtphiigejlfoinaaGreatGal
namespace Go.Proofs.YtphiigejlfoinaaGreat
open Go.RowKit Go.Maps Go.Sort
theorem i64_mask3 (z : Int) (m : Nat) (hm : m < 9223372036854775808) : ∃ k : Nat, k ≤ m ∧ bits .and .i64 z (m : Int) = (k : Int) := by
  refine ⟨(BitVec.ofInt 64 z &&& BitVec.ofInt 64 (m : Int)).toNat, ?_, ?_⟩
  · rw [BitVec.toNat_and, ofInt_u64 m (by omega)]; exact Nat.and_le_right
  · show IntKind.i64.wrap ((BitVec.ofInt 64 z &&& BitVec.ofInt 64 (m : Int)).toNat : Int) = _
    have h : (BitVec.ofInt 64 z &&& BitVec.ofInt 64 (m : Int)).toNat ≤ m := by
      rw [BitVec.toNat_and, ofInt_u64 m (by omega)]; exact Nat.and_le_right
    exact wrapI (by omega) (by omega)
theorem Tryz.infoB : (Tryz.prog.info? 5).map (fun i => (i.zero, i.size, i.bytes)) = some (some (.int .u8 0), 1, 1) := by kernel_rfl
def zc (k : Nat) : Array Value := madeCells #[.int .u8 0] k
theorem zc_eq (k : Nat) : zc k = ((List.replicate k (0 : Int)).map (Value.int .u8)).toArray := by
  unfold zc madeCells
  apply Array.ext
  · simp
  · intro i h1 h2
    simp [Nat.mod_one]
theorem addr_add0 (b j : Nat) : (⟨b, 0, none⟩ : Addr).add j = ⟨b, j, none⟩ := by unfold Addr.add; split <;> simp_all
theorem push_zeros : ∀ (k : Nat) (l : List UInt8), (List.replicate k (0 : Int)).foldl (fun (r : ByteArray) n => r.push (UInt8.ofNat n.toNat)) ⟨l.toArray⟩ = ⟨(l ++ List.replicate k (0 : UInt8)).toArray⟩ := by
  intro k
  induction k with
  | zero => intro l; simp
  | succ k ih =>
    intro l
    rw [List.replicate_succ, List.foldl_cons]
    have e : (ByteArray.mk l.toArray).push (UInt8.ofNat (0 : Int).toNat) = ⟨(l ++ [0]).toArray⟩ := by
      show ByteArray.mk (l.toArray.push 0) = _
      simp
    rw [e, ih, List.append_assoc]; rfl
def zt (k : Nat) : ByteArray := ⟨(List.replicate k (0 : UInt8)).toArray⟩
theorem zt_size (k : Nat) : (zt k).size = k := by show (List.replicate k (0 : UInt8)).toArray.size = k; simp
theorem conv_zeros (b k : Nat) (W : World) (h : W.heap[b]? = some (.cells (zc k) 5)) :
    (convert 44 9 (.slice (some ⟨b, 0, none⟩) k k)).run Tryz.prog W = .ok (.string (zt k)) W := by
  refine (run_convert_bytes_string _ 44 9 5 _ _ _ Tryz.underlying44 Tryz.underlying5 Tryz.underlying9).trans ?_
  rw [run_bytesToString (ns := List.replicate k (0 : Int))]
  · congr 2
    exact push_zeros k []
  · have h' := run_loadCells_list (P := Tryz.prog) W ⟨b, 0, none⟩ (zc k).toList (fun j v hv => by
      rw [addr_add0, cell_of_row _ _ j _ _ _ h]
      simpa using hv)
    rw [show (zc k).toList.length = k by rw [zc_eq]; simp] at h'
    rw [h', zc_eq]
set_option maxRecDepth 100000 in
set_option maxHeartbeats 8000000 in
theorem trimLong_law (more : Int) (W : World) : Calls Tryz.prog 4 #[.int .i64 more] W fun e w' => e = .returned (.bool true) ∧ Bel W w' := by
  obtain ⟨k, hk, hbit⟩ := i64_mask3 more 3 (by omega)
  rw [show ((3 : Nat) : Int) = 3 from rfl] at hbit
  obtain ⟨n, hn⟩ : ∃ n : Nat, n = 1044479 + k := ⟨_, rfl⟩
  have hw1 : IntKind.i64.wrap (1044480 + (k : Int)) = 1044480 + (k : Int) := wrapI (by omega) (by omega)
  have hw2 : IntKind.i64.wrap (1044480 + (k : Int) - 1) = (n : Int) := by rw [show 1044480 + (k : Int) - 1 = (n : Int) by omega]; exact wrapI (by omega) (by omega)
  have hmk := run_make_row' (P := Tryz.prog) 44 5 (.int .u8 0) 1 Tryz.underlying44 Tryz.infoB rfl .i64 .i64 n (by omega) (by omega)
  rw [show madeCells #[.int .u8 0] n = zc n from rfl] at hmk
  have HN := hide new_1
  have HT := hide tick_t
  have HAL := hide (fun w => alive_t (W := w))
  have HSM := hide same0
  have HC := hide cut_t
  have HZ := hide cut_z
  have hn1 : n ≤ 1044482 := by omega
  have HS : Hid (∀ d, (gR1 d).snap = d) := hide (fun d => by rw [gR1_eq])
  rw [show pc 0 p0 x0 = gc g0 y0 from rfl] at HSM
  clear hn hk
  generalize gB1 = gB at *
  generalize gR1 = gR at *
  go_enter Tryz.func4, Tryz.ntmps4
  go_wp2_with (first
    | go_skip
    | (refine bx_ldK 31 (.tmp 3) (by exact rfl) _ (by exact rfl) (by exact rfl) (pc 1 (pnew 1 1) x1) _ (unhide HR1) Tryz.underlying31 (Tryz.size32 _ _ _) ?_)
    | (refine bx_ldK 31 (.tmp 5) (by exact rfl) _ (by exact rfl) (by exact rfl) (gc gB x2) _ (((Bel.refl _).alloc _).row (unhide HR3)) Tryz.underlying31 (Tryz.sizeP _ _) ?_)
    | go_guarded
    | (go_at_call 11; refine ((unhide HN) _).mono ?_; rintro e w1 ⟨x1, rfl, hp1, hb1⟩; have HP := hide hp1; have HB := hide hb1; clear hp1 hb1)
    | (refine bx_new rfl 31 rfl _ Tryz.zeroP ?_; intro b w4 hr4 hs4 hb4; have HQ := hide (And.intro hr4 (And.intro hs4 hb4)); clear hr4 hs4 hb4)
    | (refine bx_st rfl 31 (.tmp 3) _ rfl b (pc 1 (pnew 1 1) x1) _ rfl rfl (unhide HQ).1 (Tryz.size32 _ _ _) rfl (pc_one _ _ _) ?_; intro w5 hr5 hc5; have hbb := bel_off (unhide HQ).2.2 hc5 (Nat.le_of_eq (unhide HQ).2.1); have HR1 := hide hr5; have HP := hide ((unhide HP).bel hbb); have HB := hide ((unhide HB).trans hbb); clear hr5 hc5 hbb)
    | (go_at_call 12; refine ((unhide HT) _ _ (unhide HP)).mono ?_; rintro e w2 ⟨x2, aA, cA, rfl, hp2, hc2, hb2⟩; have HP2 := hide (And.intro hp2 hc2); have HB := hide ((unhide HB).trans hb2); clear hp2 hc2 hb2)
    | (refine bx_st rfl 31 (.tmp 5) _ rfl b (gc gB x2) _ rfl rfl (unhide HQ).1 (Tryz.sizeP _ _) rfl (gc_one _ _) ?_; intro w6 hr5 hc5; have hbb := bel_off (unhide HQ).2.2 hc5 (Nat.le_of_eq (unhide HQ).2.1); have HR3 := hide hr5; have HP2 := hide (And.intro ((unhide HP2).1.bel hbb) (unhide HP2).2); have HB := hide ((unhide HB).trans hbb); have hcv := conv_zeros w6.heap.size n (w6.alloc (.cells (zc n) 5)) (at_new w6 _); clear hr5 hc5 hbb))
  have HB6 := hide ((unhide HB).trans ((Bel.refl w6).alloc (.cells (zc n) 5)))
  have HP6 := hide ((unhide HP2).1.bel ((Bel.refl w6).alloc (.cells (zc n) 5)))
  clear hcv hmk
  by_cases hs : n ≤ 1044480
  · have hs' : ¬ ((1044480 : Int) < (n : Int)) := by omega
    refine ((unhide HC) _ _ (zt n) (by rw [zt_size]; exact hs) (unhide HP6) (unhide HP2).2).mono ?_
    rintro e w7 ⟨x3, rfl, hg7, hb7⟩
    have HB7 := hide ((unhide HB6).trans hb7)
    have hsn := (unhide HS) (zt n)
    have hsz := zt_size n
    clear hb7 hg7 HS HC HZ
    generalize gR (zt n) = r1 at *
    generalize zt n = tx at *
    have HSN := hide hsn
    clear hsn
    go_wp2_with (first
      | go_skip
      | go_guarded
      | (refine bx_new rfl 31 rfl _ Tryz.zeroP ?_; intro b9 w4 hr4 hs4 hb4; have HQ := hide (And.intro hr4 (And.intro hs4 hb4)); clear hr4 hs4 hb4)
      | (refine bx_st rfl 31 (.tmp 9) _ rfl b9 (gc r1 x3) _ rfl rfl (unhide HQ).1 (Tryz.sizeP _ _) rfl (gc_one _ _) ?_; intro w5 hr5 hc5; have hbb := bel_off (unhide HQ).2.2 hc5 (Nat.le_of_eq (unhide HQ).2.1); have y9 := (Bg.of hr5).c9; rw [unhide HSN] at y9; have HB8 := hide ((unhide HB7).trans hbb); clear hr5 hc5 hbb)
      | (go_at_call 14; refine ((unhide HAL) _).mono ?_; rintro e w8 ⟨rfl, hb8⟩; have HB9 := hide ((unhide HB8).trans hb8); clear hb8))
    go_ret
    exact ⟨rfl, unhide HB9⟩
  · have hs' : (1044480 : Int) < (n : Int) := by omega
    refine ((unhide HZ) _ _ (zt n) (by rw [zt_size]; omega) (unhide HP6) (unhide HP2).2).mono ?_
    rintro e w7 ⟨rfl, hb7⟩
    have HB7 := hide ((unhide HB6).trans hb7)
    clear hb7 HS HC HZ
    generalize zt n = tx at *
    go_wp2_with (first
      | go_skip
      | (refine bx_ldK 31 (.tmp 9) (by exact rfl) _ (by exact rfl) (by exact rfl) (gc g0 y0) _ (unhide HR9) Tryz.underlying31 (Tryz.sizeP _ _) ?_)
      | go_guarded
      | (refine bx_new rfl 31 rfl _ Tryz.zeroP ?_; intro b9 w4 hr4 hs4 hb4; have HQ := hide (And.intro hr4 (And.intro hs4 hb4)); clear hr4 hs4 hb4)
      | (refine bx_st rfl 31 (.tmp 9) _ rfl b9 (gc g0 y0) _ rfl rfl (unhide HQ).1 (Tryz.sizeP _ _) rfl (gc_one _ _) ?_; intro w5 hr5 hc5; have hbb := bel_off (unhide HQ).2.2 hc5 (Nat.le_of_eq (unhide HQ).2.1); have HR9 := hide hr5; have HB8 := hide ((unhide HB7).trans hbb); clear hr5 hc5 hbb)
      | (go_at_call 10; refine ((unhide HSM) _).mono ?_; rintro e wa ⟨rfl, hba⟩; have HB8 := hide ((unhide HB8).trans hba); clear hba)
      | (go_at_call 14; refine ((unhide HAL) _).mono ?_; rintro e w8 ⟨rfl, hb8⟩; have HB9 := hide ((unhide HB8).trans hb8); clear hb8))
    go_ret
    exact ⟨rfl, unhide HB9⟩
end Go.Proofs.YtphiigejlfoinaaGreat
